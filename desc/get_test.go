package desc_test

import (
	"slices"
	"testing"

	"pawl/api"
	"pawl/arena"
	"pawl/desc"
)

// checkGet looks what Get tells, or that it refuses, and that it makes no access.
func checkGet(t *testing.T, a *arena.Arena, slot int, gen int, decision int, ss []api.Swap, may bool) {
	t.Helper()
	if !may {
		checkNoGet(t, a, slot, api.ErrDescForm)
		return
	}
	words := a.All()
	last, was := a.Last()
	for range 2 {
		life, decided, got, e := desc.Get(a, slot)
		if life != gen || decided != decision || !slices.Equal(got, ss) || e != api.OK {
			t.Fatalf("P13.3: Get of slot %d: %d, %d, %v, error %d, want %d, %d, %v", slot, life, decided, got, e, gen, decision, ss)
		}
		checkUntouched(t, a, words, last, was)
	}
}

// checkNoGet looks that Get refuses, and that it makes no access.
func checkNoGet(t *testing.T, a *arena.Arena, slot int, want api.Errno) {
	t.Helper()
	words := a.All()
	last, was := a.Last()
	life, decided, got, e := desc.Get(a, slot)
	if life != 0 || decided != 0 || len(got) != 0 || e != want {
		t.Fatalf("P13.3: Get of slot %d: %d, %d, %v, error %d, want error %d", slot, life, decided, got, e, want)
	}
	checkUntouched(t, a, words, last, was)
}

// checkUntouched looks that an arena's words and last access are these.
func checkUntouched(t *testing.T, a *arena.Arena, words []int, last api.Touch, was bool) {
	t.Helper()
	if touch, is := a.Last(); !slices.Equal(a.All(), words) || touch != last || is != was {
		t.Fatalf("P13.3: an access of Get: %+v", touch)
	}
}

// noValueWords are words of other kinds, and numbers that are no word at all.
func noValueWords(t *testing.T) []int {
	t.Helper()
	return []int{
		number(t, api.Word{Kind: api.WordMcas}),
		number(t, api.Word{Kind: api.WordMcas, Slot: 3, Gen: 7}),
		number(t, api.Word{Kind: api.WordMcas, Slot: 11, Gen: 65535}),
		number(t, api.Word{Kind: api.WordEntry}),
		number(t, api.Word{Kind: api.WordEntry, Slot: 1, Gen: 2, Entry: 3, Thread: 1, Seq: 4}),
		number(t, api.Word{Kind: api.WordEntry, Slot: 11, Gen: 65535, Entry: 15, Thread: 3, Seq: 1048575}),
		3, 7, 19, 67, -1, -3, -4, -8, -16, -64, -1 << 32,
		4 * (mostValue + 1), 4*(mostValue+1) + 8, 1 << 62, 1<<62 + 4, mostInt, mostInt - 3, leastInt, leastInt + 4,
	}
}

// Of a new arena each descriptor is one of no entries, not decided yet.
func TestGetOfANewArena(t *testing.T) {
	a := arena.New()
	for slot := range 12 {
		checkGet(t, a, slot, 0, 0, nil, true)
	}
}

func TestGetBehindAWriter(t *testing.T) {
	for slot := range 12 {
		for _, gen := range []int{0, 1, 2, 4, 256, mostGen - 1, mostGen} {
			for _, ss := range someEntries() {
				a := dirty(t)
				write(t, a, slot, gen, ss...)
				checkGet(t, a, slot, gen, 0, ss, true)
				for other := range 12 {
					if other != slot {
						checkNoGet(t, a, other, api.ErrDescForm)
					}
				}
			}
		}
	}
}

func TestGetOfAllSlotsAtOnce(t *testing.T) {
	a := dirty(t)
	for slot := range 12 {
		write(t, a, slot, 100+slot, full()[slot:]...)
	}
	for slot := range 12 {
		checkGet(t, a, slot, 100+slot, 0, full()[slot:], true)
	}
}

func TestGetByHand(t *testing.T) {
	a := laid(t, 1, 4*(4*3+1), 4*2, 4*5, 4*7, 4*mostValue, 4*15, 0, 4)
	checkGet(t, a, 1, 3, 1, []api.Swap{{Cell: 5, Was: 7, Now: mostValue}, {Cell: 15, Was: 0, Now: 1}}, true)
}

func TestGetOfEachLifeAndDecision(t *testing.T) {
	one := []api.Swap{{Cell: 4, Was: 1, Now: 2}}
	a := laid(t, 9, wordsOf(0, 0, one)...)
	for gen := range mostGen + 1 {
		for decision := range 4 {
			put(t, a, 484, 4*(4*gen+decision))
			life, decided, ss, e := desc.Get(a, 9)
			if decision == 3 {
				if life != 0 || decided != 0 || len(ss) != 0 || e != api.ErrDescForm {
					t.Fatalf("P13.3: Get of life %d and no decision: %d, %d, %v, error %d", gen, life, decided, ss, e)
				}
				continue
			}
			if life != gen || decided != decision || !slices.Equal(ss, one) || e != api.OK {
				t.Fatalf("P13.3: Get of life %d, decision %d: %d, %d, %v, error %d", gen, decision, life, decided, ss, e)
			}
		}
	}
}

func TestGetOfEachSlotAndDecision(t *testing.T) {
	for slot := range 12 {
		for decision := range 3 {
			for _, gen := range []int{0, 1, 77, mostGen} {
				for _, ss := range someEntries() {
					checkGet(t, laid(t, slot, wordsOf(gen, decision, ss)...), slot, gen, decision, ss, true)
				}
			}
		}
	}
}

func TestGetOfNoSlot(t *testing.T) {
	for _, slot := range noSlots() {
		checkNoGet(t, arena.New(), slot, api.ErrDescForm)
		checkNoGet(t, dirty(t), slot, api.ErrDescForm)
	}
}

func TestGetOfNoArena(t *testing.T) {
	for _, slot := range append(noSlots(), 0, 1, 5, 11) {
		if life, decision, ss, e := desc.Get(nil, slot); life != 0 || decision != 0 || len(ss) != 0 || e != api.ErrNil {
			t.Errorf("P13.3: Get of slot %d without an arena: %d, %d, %v, error %d", slot, life, decision, ss, e)
		}
	}
}

func TestFirstWordsThatAreNone(t *testing.T) {
	xs := append(noValueWords(t),
		4*3, 4*(4*1+3), 4*(4*77+3), 4*(4*mostGen+3),
		4*4*(mostGen+1), 4*(4*(mostGen+1)+1), 4*(4*(mostGen+1)+2), 4*(4*(mostGen+1)+3), 4*4*(mostGen+2),
		4*4<<32, 4*(4<<32+1), 4*(4*(1<<33+5)+2), 4*mostValue, 4*(mostValue-1), 4*(mostValue-3))
	for _, x := range xs {
		for _, ss := range someEntries() {
			a := laid(t, 5, wordsOf(1, 1, ss)...)
			put(t, a, 284, x)
			checkNoGet(t, a, 5, api.ErrDescForm)
		}
	}
}

func TestNumbersOfEntriesThatAreNone(t *testing.T) {
	xs := append(noValueWords(t), 4*17, 4*18, 4*32, 4*200, 4*256, 4*(1<<32), 4*(1<<32+1), 4*(1<<32+16), 4*mostValue)
	for _, x := range xs {
		for _, ss := range someEntries() {
			a := laid(t, 5, wordsOf(1, 1, ss)...)
			put(t, a, 285, x)
			checkNoGet(t, a, 5, api.ErrDescForm)
		}
	}
	// In the last descriptor an entry more would stand behind the arena's end.
	for _, x := range xs {
		a := laid(t, 11, wordsOf(1, 1, full())...)
		put(t, a, 585, x)
		checkNoGet(t, a, 11, api.ErrDescForm)
	}
}

// The number says how many of the entries that stand there count.
func TestNumbersOfEntriesInARow(t *testing.T) {
	for _, slot := range []int{0, 5, 11} {
		a := laid(t, slot, wordsOf(1, 2, full())...)
		for n := range 17 {
			put(t, a, firstAt(slot)+1, 4*n)
			checkGet(t, a, slot, 1, 2, full()[:n], true)
		}
		put(t, a, firstAt(slot)+1, 4*17)
		checkNoGet(t, a, slot, api.ErrDescForm)
	}
}

// Each word of each entry in each row as one that is no value.
func TestEntriesWhoseWordsAreNoValues(t *testing.T) {
	for _, n := range []int{1, 2, 7, 16} {
		ss := full()[:n]
		xs := wordsOf(3, 1, ss)
		for i := 2; i < len(xs); i++ {
			for _, x := range noValueWords(t) {
				a := laid(t, 11, xs...)
				put(t, a, 584+i, x)
				checkNoGet(t, a, 11, api.ErrDescForm)
			}
		}
	}
}

// Each cell of each row as one that is none, that stands in the row already, or that does not rise.
func TestEntriesWhoseCellsMayNotBe(t *testing.T) {
	for _, n := range []int{1, 2, 7, 16} {
		for i := range n {
			for cell := range 40 {
				ss := full()[:n]
				ss[i].Cell = cell
				may := cell < 16 && (i == 0 || cell > i-1) && (i == n-1 || cell < i+1)
				checkGet(t, laid(t, 3, wordsOf(4, 2, ss)...), 3, 4, 2, ss, may)
			}
			for _, cell := range []int{255, 256, 1 << 20, 1 << 32, 1<<32 + i, mostValue} {
				ss := full()[:n]
				ss[i].Cell = cell
				checkNoGet(t, laid(t, 3, wordsOf(4, 2, ss)...), 3, api.ErrDescForm)
			}
		}
	}
}

func TestEntriesAtTheEdgesOfValues(t *testing.T) {
	for i := range 16 {
		for _, x := range []int{0, 1, mostValue - 1, mostValue, mostValue + 1} {
			was, now := full(), full()
			was[i].Was, now[i].Now = x, x
			checkGet(t, laid(t, 8, wordsOf(2, 0, was)...), 8, 2, 0, was, x <= mostValue)
			checkGet(t, laid(t, 8, wordsOf(2, 0, now)...), 8, 2, 0, now, x <= mostValue)
		}
	}
}

// haveWords tells whether 4 times each number of some entries is the one that it should be: farther numbers wrap round, and could stand as words of others.
func haveWords(ss []api.Swap) bool {
	for _, s := range ss {
		for _, x := range []int{s.Cell, s.Was, s.Now} {
			if 4*x/4 != x {
				return false
			}
		}
	}
	return true
}

// Entries that a writer refuses may stand in an arena all the same: Get refuses them, too.
func TestGetRefusesWhatAWriterDoes(t *testing.T) {
	for _, ss := range wrongRows() {
		if len(ss) <= 16 && haveWords(ss) {
			checkNoGet(t, laid(t, 2, wordsOf(5, 1, ss)...), 2, api.ErrDescForm)
		}
	}
}

// What stands behind a row's end tells nothing, whatever it is.
func TestWordsBehindTheEnd(t *testing.T) {
	for _, ss := range [][]api.Swap{nil, {{Cell: 15, Was: 1, Now: 2}}, full()[3:9], full()[:15]} {
		xs := wordsOf(6, 1, ss)
		for _, x := range append(noValueWords(t), 0, 4, 4*16, 4*mostValue) {
			a := laid(t, 10, xs...)
			for at := 534 + len(xs); at < 634; at++ {
				put(t, a, at, x)
			}
			checkGet(t, a, 10, 6, 1, ss, true)
		}
	}
}

// A descriptor that is written anew tells what was written last, over a longer row and over a shorter one.
func TestGetOfASlotThatIsWrittenAnew(t *testing.T) {
	for _, one := range someEntries() {
		for _, two := range someEntries() {
			a := dirty(t)
			write(t, a, 4, 7, one...)
			put(t, a, 234, 4*(4*7+2))
			checkGet(t, a, 4, 7, 2, one, true)
			checkWrites(t, newWriter(t, 4, 8, two...), a, 234, wordsOf(8, 0, two))
			checkGet(t, a, 4, 8, 0, two, true)
			for i, x := range wordsOf(7, 2, one) {
				if at := i + 234; i >= len(wordsOf(8, 0, two)) && a.All()[at] != x {
					t.Fatalf("P13.2: the word at %d, behind a shorter row's end: %d, want %d", at, a.All()[at], x)
				}
			}
		}
	}
}

// While a writer is at work the words of both rows stand there.
func TestGetWhileAWriterWrites(t *testing.T) {
	a := arena.New()
	write(t, a, 0, 1, api.Swap{Cell: 3, Was: 4, Now: 5})
	w := newWriter(t, 0, 2, api.Swap{Cell: 6, Was: 7, Now: 8}, api.Swap{Cell: 9, Was: 10, Now: 11})
	steps := []struct {
		may bool
		ss  []api.Swap
	}{
		{true, []api.Swap{{Cell: 3, Was: 4, Now: 5}}},
		{false, nil},
		{false, nil},
		{false, nil},
		{false, nil},
		{true, []api.Swap{{Cell: 6, Was: 7, Now: 8}, {Cell: 9}}},
		{true, []api.Swap{{Cell: 6, Was: 7, Now: 8}, {Cell: 9, Was: 10}}},
		{true, []api.Swap{{Cell: 6, Was: 7, Now: 8}, {Cell: 9, Was: 10, Now: 11}}},
	}
	for i, s := range steps {
		checkStore(t, w, a, 34+i, wordsOf(2, 0, steps[7].ss)[i], i == 7)
		checkGet(t, a, 0, 2, 0, s.ss, s.may)
	}
}

func TestGetIsNewMemory(t *testing.T) {
	a := arena.New()
	write(t, a, 7, 1, full()...)
	_, _, one, _ := desc.Get(a, 7)
	_, _, two, _ := desc.Get(a, 7)
	words := a.All()
	for i := range one {
		one[i] = api.Swap{Cell: -1}
	}
	if !slices.Equal(two, full()) || !slices.Equal(a.All(), words) {
		t.Errorf("R4: an answer behind a change of another one: %v", two)
	}
	checkGet(t, a, 7, 1, 0, full(), true)
	put(t, a, 384+2+3*5+1, 4*99)
	write(t, a, 7, 2)
	if !slices.Equal(two, full()) {
		t.Errorf("R4: an answer behind a change of the arena: %v", two)
	}
}
