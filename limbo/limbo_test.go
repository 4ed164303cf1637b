package limbo_test

import (
	"slices"
	"sync"
	"testing"

	"pawl/api"
	"pawl/limbo"
)

const (
	leastInt = -1 << 63
	mostInt  = 1<<63 - 1
	// lastEpoch is the last one that may be here.
	lastEpoch = 1073741823
)

// draw is a row of drawn numbers.
type draw uint64

func (r *draw) next(n int) int {
	*r = *r*6364136223846793005 + 1442695040888963407
	return int(uint64(*r) >> 33 % uint64(n))
}

// rows are some that may be: none, one, and longer ones, with epochs that rise, fall and stay, and slots that come twice.
func rows() [][]api.Retired {
	return [][]api.Retired{
		nil,
		{},
		{{Slot: 0, Epoch: 0}},
		{{Slot: 11, Epoch: lastEpoch}},
		{{Slot: 5, Epoch: 7}, {Slot: 2, Epoch: 7}},
		{{Slot: 4, Epoch: 9}, {Slot: 4, Epoch: 9}, {Slot: 4, Epoch: 8}},
		{{Slot: 0, Epoch: 0}, {Slot: 1, Epoch: 1}, {Slot: 2, Epoch: 2}, {Slot: 3, Epoch: 3}, {Slot: 4, Epoch: 4}, {Slot: 5, Epoch: 5}},
		{{Slot: 11, Epoch: 40}, {Slot: 0, Epoch: 30}, {Slot: 10, Epoch: 20}, {Slot: 1, Epoch: 10}, {Slot: 9, Epoch: 0}},
		{{Slot: 3, Epoch: lastEpoch - 4}, {Slot: 8, Epoch: lastEpoch - 3}, {Slot: 3, Epoch: lastEpoch - 2}, {Slot: 8, Epoch: lastEpoch - 1}, {Slot: 3, Epoch: lastEpoch}},
		drawnRow(1, 12, 20),
		drawnRow(2, 5000, 100),
	}
}

// drawnRow is a row of so many slots that are drawn, with drawn epochs below behind.
func drawnRow(seed draw, n int, behind int) []api.Retired {
	rs := make([]api.Retired, n)
	for i := range rs {
		rs[i] = api.Retired{Slot: seed.next(12), Epoch: seed.next(behind)}
	}
	return rs
}

// noSlots are numbers of no slot, noEpochs such of no epoch.
func noSlots() []int {
	return []int{-1, 12, -2, 13, -12, 15, 16, 255, 256, 1<<32 - 1, 1 << 32, 1<<32 + 5, -1 << 32, 1 << 62, 1<<62 + 3, mostInt, mostInt - 1, leastInt, leastInt + 1, leastInt + 7}
}

func noEpochs() []int {
	return []int{-1, lastEpoch + 1, -2, -3, -4, lastEpoch + 2, lastEpoch + 3, lastEpoch + 4, 1 << 31, 1<<32 - 1, 1 << 32, 1<<32 + 5, -1 << 32, -lastEpoch, -lastEpoch - 1, 1 << 62, 1<<62 + 5, mostInt, mostInt - 1, mostInt - 3, leastInt, leastInt + 1, leastInt + 3}
}

// noneOf are what may not be in a row.
func noneOf() []api.Retired {
	var rs []api.Retired
	for _, slot := range noSlots() {
		rs = append(rs, api.Retired{Slot: slot, Epoch: 0}, api.Retired{Slot: slot, Epoch: 7}, api.Retired{Slot: slot, Epoch: lastEpoch})
	}
	for _, epoch := range noEpochs() {
		rs = append(rs, api.Retired{Slot: 0, Epoch: epoch}, api.Retired{Slot: 7, Epoch: epoch}, api.Retired{Slot: 11, Epoch: epoch})
	}
	return append(rs, api.Retired{Slot: -1, Epoch: -1}, api.Retired{Slot: 12, Epoch: lastEpoch + 1}, api.Retired{Slot: mostInt, Epoch: leastInt})
}

// roomy is a row with marks in its spare room, and all that it lies in.
func roomy(rs []api.Retired) ([]api.Retired, []api.Retired) {
	all := slices.Clone(rs)
	for range 5 {
		all = append(all, api.Retired{Slot: -99, Epoch: -77})
	}
	return all[:len(rs)], all
}

// checkAdd looks what Add answers, and that the row that came in stays as it is, its spare room, too.
func checkAdd(t *testing.T, rs []api.Retired, slot int, epoch int, want []api.Retired, wantError api.Errno) {
	t.Helper()
	in, all := roomy(rs)
	before := slices.Clone(all)
	got, e := limbo.Add(in, slot, epoch)
	if !slices.Equal(got, want) || e != wantError {
		t.Fatalf("P12.1: Add(%v, %d, %d): %v, error %d, want %v, error %d", rs, slot, epoch, got, e, want, wantError)
	}
	if !slices.Equal(all, before) {
		t.Fatalf("R4: the row behind Add(%v, %d, %d): %v", rs, slot, epoch, all)
	}
	if again, e := limbo.Add(in, slot, epoch); !slices.Equal(again, want) || e != wantError {
		t.Fatalf("R5: Add(%v, %d, %d) again: %v, error %d", rs, slot, epoch, again, e)
	}
	if !slices.Equal(got, want) {
		t.Fatalf("R4: an answer behind another Add: %v, want %v", got, want)
	}
}

// checkTake looks what Take answers, and that the row that came in stays as it is, its spare room, too.
func checkTake(t *testing.T, rs []api.Retired, epoch int, want []int, wantRest []api.Retired, wantError api.Errno) {
	t.Helper()
	in, all := roomy(rs)
	before := slices.Clone(all)
	got, rest, e := limbo.Take(in, epoch)
	if !slices.Equal(got, want) || !slices.Equal(rest, wantRest) || e != wantError {
		t.Fatalf("P12.1: Take(%v, %d): %v, %v, error %d, want %v, %v, error %d", rs, epoch, got, rest, e, want, wantRest, wantError)
	}
	if !slices.Equal(all, before) {
		t.Fatalf("R4: the row behind Take(%v, %d): %v", rs, epoch, all)
	}
	if slots, others, e := limbo.Take(in, epoch); !slices.Equal(slots, want) || !slices.Equal(others, wantRest) || e != wantError {
		t.Fatalf("R5: Take(%v, %d) again: %v, %v, error %d", rs, epoch, slots, others, e)
	}
	if !slices.Equal(got, want) || !slices.Equal(rest, wantRest) {
		t.Fatalf("R4: answers behind another Take: %v, %v, want %v, %v", got, rest, want, wantRest)
	}
}

func TestAddBehindEachRow(t *testing.T) {
	for _, rs := range rows() {
		for _, last := range []api.Retired{{Slot: 0, Epoch: 0}, {Slot: 4, Epoch: 9}, {Slot: 11, Epoch: 1}, {Slot: 6, Epoch: lastEpoch}} {
			checkAdd(t, rs, last.Slot, last.Epoch, append(slices.Clone(rs), last), api.OK)
		}
	}
}

func TestAddOfEachSlotAndEpoch(t *testing.T) {
	before := []api.Retired{{Slot: 3, Epoch: 50}}
	for slot := range 12 {
		for _, epoch := range []int{0, 1, 2, 3, 4, 49, 50, 51, 1 << 20, lastEpoch - 3, lastEpoch - 2, lastEpoch - 1, lastEpoch} {
			checkAdd(t, nil, slot, epoch, []api.Retired{{Slot: slot, Epoch: epoch}}, api.OK)
			checkAdd(t, before, slot, epoch, []api.Retired{{Slot: 3, Epoch: 50}, {Slot: slot, Epoch: epoch}}, api.OK)
		}
	}
}

// Rows grow one by one, beyond the number of slots, too; those that were answered before stay as they are.
func TestAddOneByOne(t *testing.T) {
	var rs []api.Retired
	var all [][]api.Retired
	for i := range 100 {
		next, e := limbo.Add(rs, i%12, 2*i)
		if e != api.OK {
			t.Fatalf("P12.1: Add number %d: error %d", i, e)
		}
		if rs, e = limbo.Add(rs, i%7, i); e != api.OK {
			t.Fatalf("P12.1: Add number %d: error %d", i, e)
		}
		all = append(all, next, rs)
	}
	for i := range 100 {
		a, b := all[2*i], all[2*i+1]
		if len(a) != i+1 || len(b) != i+1 || !slices.Equal(a[:i], b[:i]) {
			t.Fatalf("P12.1: rows behind %d adds: %v, %v", i+1, a, b)
		}
		if (a[i] != api.Retired{Slot: i % 12, Epoch: 2 * i}) || (b[i] != api.Retired{Slot: i % 7, Epoch: i}) {
			t.Fatalf("P12.1: the last ones behind %d adds: %+v, %+v", i+1, a[i], b[i])
		}
	}
}

func TestAddOfNone(t *testing.T) {
	for _, rs := range rows() {
		for _, r := range noneOf() {
			checkAdd(t, rs, r.Slot, r.Epoch, nil, api.ErrLimboForm)
		}
	}
}

// withOne is a row with r at that place, in place of what was there.
func withOne(rs []api.Retired, at int, r api.Retired) []api.Retired {
	rs = slices.Clone(rs)
	rs[at] = r
	return rs
}

func TestRowsWithNoneAtAnyPlace(t *testing.T) {
	for _, rs := range rows() {
		if len(rs) > 20 {
			continue
		}
		for at := range rs {
			for _, r := range noneOf() {
				no := withOne(rs, at, r)
				checkAdd(t, no, 1, 7, nil, api.ErrLimboForm)
				checkAdd(t, no, 12, -1, nil, api.ErrLimboForm)
				for _, epoch := range []int{0, 7, lastEpoch, lastEpoch + 1, -1} {
					checkTake(t, no, epoch, nil, nil, api.ErrLimboForm)
				}
			}
		}
	}
}

func TestLongRowsWithNoneAtAPlace(t *testing.T) {
	rs := drawnRow(3, 5000, 100)
	for _, at := range []int{0, 1, 2500, 4998, 4999} {
		for _, r := range noneOf() {
			no := withOne(rs, at, r)
			checkAdd(t, no, 1, 7, nil, api.ErrLimboForm)
			checkTake(t, no, 50, nil, nil, api.ErrLimboForm)
		}
	}
}

// What may not be in a row counts for none in the spare room behind it.
func TestNoneInTheSpareRoom(t *testing.T) {
	for _, r := range noneOf() {
		all := []api.Retired{{Slot: 1, Epoch: 2}, {Slot: 3, Epoch: 9}, r, r}
		if got, e := limbo.Add(all[:2], 5, 9); e != api.OK || !slices.Equal(got, []api.Retired{{Slot: 1, Epoch: 2}, {Slot: 3, Epoch: 9}, {Slot: 5, Epoch: 9}}) {
			t.Fatalf("P12.1: Add with %+v in the spare room: %v, error %d", r, got, e)
		}
		if slots, rest, e := limbo.Take(all[:2], 9); e != api.OK || !slices.Equal(slots, []int{1}) || !slices.Equal(rest, []api.Retired{{Slot: 3, Epoch: 9}}) {
			t.Fatalf("P12.1: Take with %+v in the spare room: %v, %v, error %d", r, slots, rest, e)
		}
	}
}

func TestTakeOfNoEpoch(t *testing.T) {
	for _, rs := range rows() {
		for _, epoch := range noEpochs() {
			checkTake(t, rs, epoch, nil, nil, api.ErrLimboForm)
		}
	}
}

func TestTakeOfNoRow(t *testing.T) {
	for _, epoch := range []int{0, 1, 2, 3, 4, 100, lastEpoch - 1, lastEpoch} {
		checkTake(t, nil, epoch, nil, nil, api.OK)
		checkTake(t, []api.Retired{}, epoch, nil, nil, api.OK)
	}
}

func TestTakeByHand(t *testing.T) {
	rs := []api.Retired{{Slot: 7, Epoch: 5}, {Slot: 1, Epoch: 8}, {Slot: 7, Epoch: 6}, {Slot: 0, Epoch: 4}, {Slot: 11, Epoch: 7}, {Slot: 7, Epoch: 5}}
	checkTake(t, rs, 6, nil, rs, api.OK)
	checkTake(t, rs, 7, []int{0}, []api.Retired{{Slot: 7, Epoch: 5}, {Slot: 1, Epoch: 8}, {Slot: 7, Epoch: 6}, {Slot: 11, Epoch: 7}, {Slot: 7, Epoch: 5}}, api.OK)
	checkTake(t, rs, 8, []int{7, 0, 7}, []api.Retired{{Slot: 1, Epoch: 8}, {Slot: 7, Epoch: 6}, {Slot: 11, Epoch: 7}}, api.OK)
	checkTake(t, rs, 9, []int{7, 7, 0, 7}, []api.Retired{{Slot: 1, Epoch: 8}, {Slot: 11, Epoch: 7}}, api.OK)
	checkTake(t, rs, 10, []int{7, 7, 0, 11, 7}, []api.Retired{{Slot: 1, Epoch: 8}}, api.OK)
	checkTake(t, rs, 11, []int{7, 1, 7, 0, 11, 7}, nil, api.OK)
	checkTake(t, rs, lastEpoch, []int{7, 1, 7, 0, 11, 7}, nil, api.OK)
}

// What was retired two epochs ago is not ripe, three ago is, and so is all ahead of that; what is retired behind the epoch is not.
func TestTakeJustRipe(t *testing.T) {
	for slot := range 12 {
		for _, retired := range []int{0, 1, 2, 3, 50, 255, 256, 1 << 20, 1<<29 - 1, lastEpoch - 4, lastEpoch - 3, lastEpoch - 2, lastEpoch - 1, lastEpoch} {
			rs := []api.Retired{{Slot: slot, Epoch: retired}}
			for _, epoch := range []int{retired + 3, retired + 4, retired + 100, 1 << 29, lastEpoch - 1, lastEpoch} {
				if retired+3 <= epoch && epoch <= lastEpoch {
					checkTake(t, rs, epoch, []int{slot}, nil, api.OK)
				}
			}
			for _, epoch := range []int{retired + 2, retired + 1, retired, retired - 1, retired - 2, retired - 3, retired - 4, 2, 1, 0} {
				if 0 <= epoch && epoch < retired+3 && epoch <= lastEpoch {
					checkTake(t, rs, epoch, nil, rs, api.OK)
				}
			}
		}
	}
}

// Below the epoch 3 nothing is ripe.
func TestTakeBelowRipe(t *testing.T) {
	for _, rs := range rows() {
		for epoch := range 3 {
			checkTake(t, rs, epoch, nil, rs, api.OK)
		}
	}
}

// Any set of the places of a row may be ripe.
func TestTakeOfEachSetOfPlaces(t *testing.T) {
	slots := []int{3, 11, 0, 3, 7, 3, 10, 1}
	for _, epoch := range []int{3, 4, 20, lastEpoch} {
		for n := range len(slots) + 1 {
			for set := range 1 << n {
				var rs, rest []api.Retired
				var ripe []int
				for i, slot := range slots[:n] {
					r := api.Retired{Slot: slot, Epoch: epoch - 2}
					if set>>i&1 == 1 {
						r.Epoch = epoch - 3
						ripe = append(ripe, slot)
					} else {
						rest = append(rest, r)
					}
					rs = append(rs, r)
				}
				checkTake(t, rs, epoch, ripe, rest, api.OK)
			}
		}
	}
}

// checkParted looks that slots and rest, laid into the row again by their epochs, are the row.
func checkParted(t *testing.T, rs []api.Retired, epoch int, slots []int, rest []api.Retired) {
	t.Helper()
	if len(slots)+len(rest) != len(rs) {
		t.Fatalf("P12.1: %d slots and %d others of a row of %d", len(slots), len(rest), len(rs))
	}
	for i, r := range rs {
		waits := r.Epoch+3 > epoch
		switch {
		case waits && len(rest) > 0 && rest[0] == r:
			rest = rest[1:]
		case !waits && len(slots) > 0 && slots[0] == r.Slot:
			slots = slots[1:]
		default:
			t.Fatalf("P12.1: Take at %d: %+v at %d is not where it must be: %v, %v", epoch, r, i, slots, rest)
		}
	}
}

func TestTakeOfRowsThatAreDrawn(t *testing.T) {
	r := draw(11)
	for n := range 2000 {
		behind := 1 + r.next(40)
		rs := drawnRow(draw(n), r.next(30), behind)
		epoch := r.next(behind + 8)
		slots, rest, e := limbo.Take(rs, epoch)
		if e != api.OK {
			t.Fatalf("P12.1: Take(%v, %d): error %d", rs, epoch, e)
		}
		checkParted(t, rs, epoch, slots, rest)
	}
}

func TestTakeOfALongRow(t *testing.T) {
	rs := drawnRow(5, 200000, 100)
	for _, epoch := range []int{0, 3, 50, 101, 102, lastEpoch} {
		slots, rest, e := limbo.Take(rs, epoch)
		if e != api.OK {
			t.Fatalf("P12.1: Take of a long row: error %d", e)
		}
		checkParted(t, rs, epoch, slots, rest)
	}
}

// Whoever adds at each epoch, and takes then, has each slot back three epochs later, in the row in which they were added.
func TestEachSlotComesBackOnce(t *testing.T) {
	r := draw(6)
	var rs []api.Retired
	waiting := map[int][]int{}
	for epoch := range 500 {
		slots, rest, e := limbo.Take(rs, epoch)
		if e != api.OK || !slices.Equal(slots, waiting[epoch-3]) {
			t.Fatalf("P12.1: Take at %d: %v, error %d, want %v", epoch, slots, e, waiting[epoch-3])
		}
		rs = rest
		for range r.next(5) {
			slot := r.next(12)
			if rs, e = limbo.Add(rs, slot, epoch); e != api.OK {
				t.Fatalf("P12.1: Add(%d, %d): error %d", slot, epoch, e)
			}
			waiting[epoch] = append(waiting[epoch], slot)
		}
		if want := len(waiting[epoch]) + len(waiting[epoch-1]) + len(waiting[epoch-2]); len(rs) != want {
			t.Fatalf("P12.1: behind epoch %d so many wait: %d, want %d", epoch, len(rs), want)
		}
	}
}

// What comes out changes neither what came in nor what else came out, nor do they change it (R4).
func TestAnswersAreNewMemory(t *testing.T) {
	for _, rs := range rows() {
		in, all := roomy(rs)
		before := slices.Clone(all)
		out, _ := limbo.Add(in, 6, 9)
		want := slices.Clone(out)
		slots, rest, _ := limbo.Take(in, 9)
		wantSlots, wantRest := slices.Clone(slots), slices.Clone(rest)
		clear(all)
		if !slices.Equal(out, want) || !slices.Equal(slots, wantSlots) || !slices.Equal(rest, wantRest) {
			t.Fatalf("R4: answers of %v behind a change of it: %v, %v, %v", rs, out, slots, rest)
		}
		copy(all, before)
		clear(out[:cap(out)])
		if !slices.Equal(all, before) || !slices.Equal(slots, wantSlots) || !slices.Equal(rest, wantRest) {
			t.Fatalf("R4: %v behind a change of what Add answered: %v, %v, %v", rs, all, slots, rest)
		}
		clear(slots[:cap(slots)])
		if !slices.Equal(all, before) || !slices.Equal(rest, wantRest) {
			t.Fatalf("R4: %v behind a change of the slots: %v, %v", rs, all, rest)
		}
		clear(rest[:cap(rest)])
		if !slices.Equal(all, before) {
			t.Fatalf("R4: %v behind a change of the rest: %v", rs, all)
		}
	}
}

// With nothing ripe, or all, the lists are new memory, too.
func TestRestIsNewMemory(t *testing.T) {
	in := []api.Retired{{Slot: 4, Epoch: 5}, {Slot: 5, Epoch: 6}}
	_, rest, _ := limbo.Take(in, 7)
	rest[0].Slot = 9
	if in[0].Slot != 4 {
		t.Errorf("R4: the rest shares memory with the row: %v", in)
	}
	_, again, _ := limbo.Take(in, 7)
	if again[0].Slot != 4 {
		t.Errorf("R4: two answers share memory: %v", again)
	}
}

func TestFromSeveralGoroutines(t *testing.T) {
	rs := drawnRow(9, 1000, 50)
	before := slices.Clone(rs)
	var wg sync.WaitGroup
	for n := range 4 {
		wg.Go(func() {
			for epoch := n; epoch < 60; epoch += 4 {
				slots, rest, e := limbo.Take(rs, epoch)
				out, f := limbo.Add(rs, n, epoch)
				if e != api.OK || f != api.OK || len(slots)+len(rest) != 1000 || len(out) != 1001 || (out[1000] != api.Retired{Slot: n, Epoch: epoch}) {
					t.Errorf("R5: calls in their own goroutine: %d, %d, %d, errors %d, %d", len(slots), len(rest), len(out), e, f)
				}
			}
		})
	}
	wg.Wait()
	if !slices.Equal(rs, before) {
		t.Error("R4: the row behind calls from several goroutines is another one")
	}
}
