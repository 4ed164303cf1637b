package free_test

import (
	"slices"
	"sync"
	"testing"

	"pawl/api"
	"pawl/arena"
	"pawl/free"
	"pawl/word"
)

const (
	leastInt  = -1 << 63
	mostInt   = 1<<63 - 1
	mostCount = 1073741823
	// headAt, nextAt are the places of chapter 10; sideAt is one that no machine of it touches.
	headAt = 16
	nextAt = 17
	sideAt = 633
)

// machine is a pop or a push.
type machine interface {
	Step(a *arena.Arena) (bool, api.Errno)
}

// headWord is the word of a head, worked out by hand; link is the first slot and 1, or 0.
func headWord(count int, link int) int {
	return 4 * (16*count + link)
}

// linkWord is that of a slot's link.
func linkWord(link int) int {
	return 4 * link
}

// laid is an arena whose free slots are these, in their row, with that count.
func laid(t *testing.T, count int, slots ...int) *arena.Arena {
	t.Helper()
	a := arena.New()
	for slot := range 12 {
		// A slot that is not free may hold any number: none reads it.
		put(t, a, nextAt+slot, -7-slot)
	}
	link := 0
	for _, slot := range slices.Backward(slots) {
		put(t, a, nextAt+slot, linkWord(link))
		link = slot + 1
	}
	put(t, a, headAt, headWord(count, link))
	return a
}

// put stores x at a place.
func put(t *testing.T, a *arena.Arena, at int, x int) {
	t.Helper()
	if _, e := a.Store(at, x); e != api.OK {
		t.Fatalf("P2.1: Store at %d: error %d", at, e)
	}
}

// load, store and swap are the accesses that a step may make.
func load(at int, there int) api.Touch {
	return api.Touch{Kind: 0, At: at, Was: there, Now: there}
}

func store(at int, was int, now int) api.Touch {
	return api.Touch{Kind: 1, At: at, Was: was, Now: now}
}

func swap(at int, was int, now int) api.Touch {
	return api.Touch{Kind: 2, At: at, Was: was, Now: now}
}

// step does one step ahead of which a mark is set, so that a step without an access shows; it tells the access, and whether there was one.
func step(t *testing.T, m machine, a *arena.Arena) (api.Touch, bool, bool, api.Errno) {
	t.Helper()
	put(t, a, sideAt, -99)
	mark, _ := a.Last()
	over, e := m.Step(a)
	got, _ := a.Last()
	return got, got != mark, over, e
}

// checkStep looks that a step makes just this access, with that answer, and changes nothing else.
func checkStep(t *testing.T, m machine, a *arena.Arena, want api.Touch, wantOver bool, wantError api.Errno) {
	t.Helper()
	words := a.All()
	words[sideAt], words[want.At] = -99, want.Now
	got, touched, over, e := step(t, m, a)
	if got != want || !touched {
		t.Fatalf("P10: a step's access: %+v, want %+v", got, want)
	}
	if over != wantOver || e != wantError {
		t.Fatalf("P10: a step with %+v: %v, error %d, want %v, error %d", want, over, e, wantOver, wantError)
	}
	if !slices.Equal(a.All(), words) {
		t.Fatalf("P10: words behind %+v: %v, want %v", want, a.All(), words)
	}
}

// checkGoesOn looks that a step makes this access, and that the machine is not over with it.
func checkGoesOn(t *testing.T, m machine, a *arena.Arena, want api.Touch) {
	t.Helper()
	checkStep(t, m, a, want, false, api.OK)
}

// checkEnds looks that a step makes this access, and that the machine is over with it, for good.
func checkEnds(t *testing.T, m machine, a *arena.Arena, want api.Touch) {
	t.Helper()
	checkStep(t, m, a, want, true, api.OK)
	checkOver(t, m, a)
}

// checkFails looks that a step makes this access, and that the machine is over with an error, for good.
func checkFails(t *testing.T, m machine, a *arena.Arena, want api.Touch) {
	t.Helper()
	checkStep(t, m, a, want, true, api.ErrFreeForm)
	checkOver(t, m, a)
}

// checkOver looks that a machine does nothing more, whatever the arena.
func checkOver(t *testing.T, m machine, a *arena.Arena) {
	t.Helper()
	for _, b := range []*arena.Arena{a, arena.New(), laid(t, 5), a} {
		words := b.All()
		words[sideAt] = -99
		got, touched, over, e := step(t, m, b)
		if touched || !slices.Equal(b.All(), words) {
			t.Fatalf("P10: an access of a machine that is over: %+v", got)
		}
		if !over || e != api.OK {
			t.Fatalf("P10: a step of a machine that is over: %v, error %d", over, e)
		}
	}
}

// checkSlot looks what a pop's Slot is.
func checkSlot(t *testing.T, p *free.Pop, want int) {
	t.Helper()
	if got := p.Slot(); got != want {
		t.Fatalf("P10.1: Slot: %d, want %d", got, want)
	}
}

// checkPop looks that a pop alone takes that slot, by three steps; count is the one ahead of it, rest what the slot leads to.
func checkPop(t *testing.T, a *arena.Arena, count int, slot int, rest int) {
	t.Helper()
	p := free.NewPop()
	checkSlot(t, p, -1)
	checkPopOn(t, p, a, count, slot, rest)
}

// checkPopOn does the same of a pop that begins, or begins again.
func checkPopOn(t *testing.T, p *free.Pop, a *arena.Arena, count int, slot int, rest int) {
	t.Helper()
	was, now := headWord(count, slot+1), headWord((count+1)%(mostCount+1), rest)
	checkGoesOn(t, p, a, load(headAt, was))
	checkSlot(t, p, -1)
	checkGoesOn(t, p, a, load(nextAt+slot, linkWord(rest)))
	checkSlot(t, p, -1)
	checkEnds(t, p, a, swap(headAt, was, now))
	checkSlot(t, p, slot)
}

// checkPush looks that a push alone puts that slot ahead of what first leads to, by three steps.
func checkPush(t *testing.T, a *arena.Arena, count int, slot int, first int) {
	t.Helper()
	checkPushOn(t, newPush(t, slot), a, count, slot, first)
}

// checkPushOn does the same of a push that begins, or begins again.
func checkPushOn(t *testing.T, p *free.Push, a *arena.Arena, count int, slot int, first int) {
	t.Helper()
	was, now := headWord(count, first), headWord((count+1)%(mostCount+1), slot+1)
	checkGoesOn(t, p, a, load(headAt, was))
	checkGoesOn(t, p, a, store(nextAt+slot, wordAt(a, nextAt+slot), linkWord(first)))
	checkEnds(t, p, a, swap(headAt, was, now))
}

// wordAt is the word at a place.
func wordAt(a *arena.Arena, at int) int {
	return a.All()[at]
}

// newPush is a push of a slot that is one.
func newPush(t *testing.T, slot int) *free.Push {
	t.Helper()
	p, e := free.NewPush(slot)
	if p == nil || e != api.OK {
		t.Fatalf("P10.2: NewPush(%d): %v, error %d", slot, p, e)
	}
	return p
}

// pop and push do a whole one.
func pop(t *testing.T, a *arena.Arena) int {
	t.Helper()
	p := free.NewPop()
	finish(t, p, a)
	return p.Slot()
}

func push(t *testing.T, a *arena.Arena, slot int) {
	t.Helper()
	finish(t, newPush(t, slot), a)
}

// finish does a machine's steps until it is over; alone it takes no more than two to fail, and three more.
func finish(t *testing.T, m machine, a *arena.Arena) {
	t.Helper()
	for range 5 {
		over, e := m.Step(a)
		if e != api.OK {
			t.Fatalf("P10: a step: error %d", e)
		}
		if over {
			return
		}
	}
	t.Fatalf("P10: a machine alone is not over after five steps")
}

// checkRow looks that the free slots are these, in this row.
func checkRow(t *testing.T, a *arena.Arena, want ...int) {
	t.Helper()
	if got, e := free.Row(a); !slices.Equal(got, want) || e != api.OK {
		t.Fatalf("P10.3: Row: %v, error %d, want %v", got, e, want)
	}
}

// checkNoRow looks that Row refuses.
func checkNoRow(t *testing.T, a *arena.Arena) {
	t.Helper()
	if got, e := free.Row(a); len(got) != 0 || e != api.ErrFreeForm {
		t.Fatalf("P10.3: Row of words that may not be: %v, error %d", got, e)
	}
}

// number is the number of a word that may be.
func number(t *testing.T, w api.Word) int {
	t.Helper()
	x, e := word.Put(w)
	if e != api.OK {
		t.Fatalf("P1.1: Put(%+v): error %d", w, e)
	}
	return x
}

// noValues are words of other kinds, and numbers that are no word at all.
func noValues(t *testing.T) []int {
	t.Helper()
	return []int{
		number(t, api.Word{Kind: api.WordMcas}),
		number(t, api.Word{Kind: api.WordMcas, Slot: 3, Gen: 7}),
		number(t, api.Word{Kind: api.WordMcas, Slot: 11, Gen: 65535}),
		number(t, api.Word{Kind: api.WordEntry}),
		number(t, api.Word{Kind: api.WordEntry, Slot: 1, Gen: 2, Entry: 3, Thread: 1, Seq: 4}),
		number(t, api.Word{Kind: api.WordEntry, Slot: 11, Gen: 65535, Entry: 15, Thread: 3, Seq: 1048575}),
		3, 7, 19, 67, -1, -3, -4, -8, -64, -72, -1 << 32,
		4 * (api.MaxValue + 1), 4*(api.MaxValue+1) + 8, 1 << 62, 1<<62 + 4, mostInt, mostInt - 3, leastInt, leastInt + 4,
	}
}

// noHeads are words that are none at HeadAt.
func noHeads(t *testing.T) []int {
	t.Helper()
	return append(noValues(t),
		headWord(0, 13), headWord(0, 14), headWord(0, 15), headWord(1, 13), headWord(7, 15), headWord(mostCount, 13), headWord(mostCount, 15),
		headWord(mostCount+1, 0), headWord(mostCount+1, 1), headWord(mostCount+1, 12), headWord(mostCount+2, 3), headWord(2*mostCount+2, 1),
		headWord(1<<31, 1), headWord(1<<32, 1), headWord(1<<35, 5), 4*api.MaxValue, 4*(api.MaxValue-3))
}

// noLinks are words that are none at NextAt and a slot.
func noLinks(t *testing.T) []int {
	t.Helper()
	return append(noValues(t),
		linkWord(13), linkWord(14), linkWord(15), linkWord(16), linkWord(17), linkWord(28), linkWord(256), linkWord(257),
		linkWord(1<<32), linkWord(1<<32+1), headWord(1, 0), headWord(1, 5), headWord(mostCount, 12), 4*api.MaxValue)
}

// rests are rows of free slots, of every length.
func rests() [][]int {
	return [][]int{
		{}, {0}, {11}, {5}, {0, 1}, {11, 0}, {3, 7, 1}, {8, 2, 10, 0}, {4, 3, 2, 1, 0},
		{6, 11, 5, 0, 9, 2}, {1, 3, 5, 7, 9, 11, 0}, {11, 10, 9, 8, 7, 6, 5, 4}, {0, 2, 4, 6, 8, 10, 1, 3, 5},
		{9, 8, 7, 6, 5, 4, 3, 2, 1, 0}, {0, 1, 2, 3, 4, 5, 6, 7, 8, 9, 10}, {5, 11, 2, 8, 0, 6, 3, 9, 1, 7, 4, 10},
	}
}

// linkTo is the link to the first of some slots.
func linkTo(slots []int) int {
	if len(slots) == 0 {
		return 0
	}
	return slots[0] + 1
}

func TestPopAlone(t *testing.T) {
	a := arena.New()
	p := free.NewPop()
	checkSlot(t, p, -1)
	checkGoesOn(t, p, a, api.Touch{Kind: 0, At: 16, Was: 4, Now: 4})
	checkSlot(t, p, -1)
	checkGoesOn(t, p, a, api.Touch{Kind: 0, At: 17, Was: 8, Now: 8})
	checkSlot(t, p, -1)
	checkEnds(t, p, a, api.Touch{Kind: 2, At: 16, Was: 4, Now: 72})
	checkSlot(t, p, 0)
	checkRow(t, a, 1, 2, 3, 4, 5, 6, 7, 8, 9, 10, 11)
}

func TestPopOfEachRow(t *testing.T) {
	for _, count := range []int{0, 1, 2, 1 << 20, mostCount - 1} {
		for _, slots := range rests()[1:] {
			a := laid(t, count, slots...)
			checkPop(t, a, count, slots[0], linkTo(slots[1:]))
			checkRow(t, a, slots[1:]...)
		}
	}
}

func TestPopOfEachSlot(t *testing.T) {
	for slot := range 12 {
		for rest := range 13 {
			a := laid(t, 9, slot)
			put(t, a, nextAt+slot, linkWord(rest))
			checkPop(t, a, 9, slot, rest)
		}
	}
}

func TestPopsUntilNoneIsLeft(t *testing.T) {
	a := arena.New()
	for slot := range 12 {
		rest := []int{2, 3, 4, 5, 6, 7, 8, 9, 10, 11, 12, 0}[slot]
		checkPop(t, a, slot, slot, rest)
	}
	checkRow(t, a)
	for range 2 {
		p := free.NewPop()
		checkEnds(t, p, a, load(headAt, headWord(12, 0)))
		checkSlot(t, p, -1)
	}
	if x := wordAt(a, headAt); x != 768 {
		t.Errorf("P10.1: the head behind twelve pops: %d", x)
	}
}

func TestPopOfAnEmptyRow(t *testing.T) {
	for _, count := range []int{0, 1, 77, mostCount} {
		p := free.NewPop()
		a := laid(t, count)
		checkEnds(t, p, a, load(headAt, headWord(count, 0)))
		checkSlot(t, p, -1)
	}
}

func TestPushOfEachSlot(t *testing.T) {
	for slot := range 12 {
		for _, slots := range rests() {
			if slices.Contains(slots, slot) {
				continue
			}
			for _, count := range []int{0, 1, 1 << 20, mostCount - 1} {
				a := laid(t, count, slots...)
				checkPush(t, a, count, slot, linkTo(slots))
				checkRow(t, a, append([]int{slot}, slots...)...)
			}
		}
	}
}

func TestPushesInEachRow(t *testing.T) {
	for _, slots := range rests() {
		a := laid(t, 0)
		for i, slot := range slots {
			first := 0
			if i > 0 {
				first = slots[i-1] + 1
			}
			checkPush(t, a, i, slot, first)
		}
		want := slices.Clone(slots)
		slices.Reverse(want)
		checkRow(t, a, want...)
	}
}

// What stands at a slot that is not free is nobody's, so a push does not look at it.
func TestPushOverAnyNumber(t *testing.T) {
	for _, x := range noLinks(t) {
		for _, slot := range []int{0, 4, 11} {
			a := laid(t, 3, 7, 2)
			put(t, a, nextAt+slot, x)
			checkPush(t, a, 3, slot, 8)
			checkRow(t, a, slot, 7, 2)
		}
	}
}

func TestPushOfNoSlot(t *testing.T) {
	for _, slot := range []int{-1, 12, -2, 13, 15, 16, -12, 255, 256, 1 << 32, 1<<32 + 1, -1 << 32, 1 << 62, mostInt, leastInt} {
		if p, e := free.NewPush(slot); p != nil || e != api.ErrFreeForm {
			t.Errorf("P10.2: NewPush(%d): %v, error %d", slot, p, e)
		}
	}
}

func TestPopsAndPushesThereAndBack(t *testing.T) {
	a := arena.New()
	for count := 0; count < 60; count += 4 {
		one, two := pop(t, a), pop(t, a)
		if one == two || one < 0 || two < 0 {
			t.Fatalf("P10.1: two pops: %d, %d", one, two)
		}
		push(t, a, one)
		push(t, a, two)
		if x := wordAt(a, headAt); x != headWord(count+4, two+1) {
			t.Fatalf("P10.2: the head: %d, want %d", x, headWord(count+4, two+1))
		}
	}
}

// turns are what another machine does to the row 3, 7, 1 of count 20, and the count and the row that it leaves.
func turns() []struct {
	name  string
	do    func(t *testing.T, a *arena.Arena)
	count int
	slots []int
} {
	return []struct {
		name  string
		do    func(t *testing.T, a *arena.Arena)
		count int
		slots []int
	}{
		{"a pop", func(t *testing.T, a *arena.Arena) { pop(t, a) }, 21, []int{7, 1}},
		{"three pops", func(t *testing.T, a *arena.Arena) { pop(t, a); pop(t, a); pop(t, a) }, 23, nil},
		{"a push", func(t *testing.T, a *arena.Arena) { push(t, a, 0) }, 21, []int{0, 3, 7, 1}},
		{"a pop and a push of it", func(t *testing.T, a *arena.Arena) { push(t, a, pop(t, a)) }, 22, []int{3, 7, 1}},
		{"a push and a pop of it", func(t *testing.T, a *arena.Arena) { push(t, a, 0); pop(t, a) }, 22, []int{3, 7, 1}},
		{"the second one away", func(t *testing.T, a *arena.Arena) { one := pop(t, a); pop(t, a); push(t, a, one) }, 23, []int{3, 1}},
		{"another one between", func(t *testing.T, a *arena.Arena) { one := pop(t, a); push(t, a, 9); push(t, a, one) }, 23, []int{3, 9, 7, 1}},
	}
}

func TestPopOfAHeadThatWasTurned(t *testing.T) {
	for _, c := range turns() {
		for _, ahead := range []int{1, 2} {
			a := laid(t, 20, 3, 7, 1)
			p := free.NewPop()
			checkGoesOn(t, p, a, load(headAt, headWord(20, 4)))
			if ahead == 1 {
				c.do(t, a)
				// A slot that is no longer free still has a link that may be one.
				checkGoesOn(t, p, a, load(nextAt+3, wordAt(a, nextAt+3)))
			} else {
				checkGoesOn(t, p, a, load(nextAt+3, linkWord(8)))
				c.do(t, a)
			}
			there := headWord(c.count, linkTo(c.slots))
			checkGoesOn(t, p, a, swap(headAt, there, there))
			checkSlot(t, p, -1)
			checkRow(t, a, c.slots...)
			if len(c.slots) == 0 {
				checkEnds(t, p, a, load(headAt, there))
				checkSlot(t, p, -1)
				continue
			}
			checkPopOn(t, p, a, c.count, c.slots[0], linkTo(c.slots[1:]))
			checkRow(t, a, c.slots[1:]...)
		}
	}
}

func TestPushAtAHeadThatWasTurned(t *testing.T) {
	for _, c := range turns() {
		for _, ahead := range []int{1, 2} {
			a := laid(t, 20, 3, 7, 1)
			p := newPush(t, 5)
			checkGoesOn(t, p, a, load(headAt, headWord(20, 4)))
			if ahead == 1 {
				c.do(t, a)
			}
			checkGoesOn(t, p, a, store(nextAt+5, -12, linkWord(4)))
			if ahead == 2 {
				c.do(t, a)
			}
			there := headWord(c.count, linkTo(c.slots))
			checkGoesOn(t, p, a, swap(headAt, there, there))
			checkRow(t, a, c.slots...)
			checkPushOn(t, p, a, c.count, 5, linkTo(c.slots))
			checkRow(t, a, append([]int{5}, c.slots...)...)
		}
	}
}

func TestHeadThatIsTurnedAgainAndAgain(t *testing.T) {
	a := laid(t, 0, 3, 7, 1)
	p, q := free.NewPop(), newPush(t, 5)
	for count := 0; count < 40; count += 2 {
		was, now := headWord(count, 4), headWord(count+2, 4)
		checkGoesOn(t, p, a, load(headAt, was))
		checkGoesOn(t, q, a, load(headAt, was))
		checkGoesOn(t, p, a, load(nextAt+3, linkWord(8)))
		checkGoesOn(t, q, a, store(nextAt+5, wordAt(a, nextAt+5), linkWord(4)))
		push(t, a, pop(t, a))
		checkGoesOn(t, p, a, swap(headAt, now, now))
		checkGoesOn(t, q, a, swap(headAt, now, now))
	}
	checkPopOn(t, p, a, 40, 3, 8)
	checkPushOn(t, q, a, 41, 5, 8)
	checkRow(t, a, 5, 7, 1)
}

// A word that is there again with the same count is the one that was loaded.
func TestHeadThatIsThereAgain(t *testing.T) {
	a := laid(t, 20, 3, 7, 1)
	p := free.NewPop()
	checkGoesOn(t, p, a, load(headAt, headWord(20, 4)))
	checkGoesOn(t, p, a, load(nextAt+3, linkWord(8)))
	put(t, a, headAt, headWord(21, 8))
	put(t, a, nextAt+3, linkWord(12))
	put(t, a, headAt, headWord(20, 4))
	checkEnds(t, p, a, swap(headAt, headWord(20, 4), headWord(21, 8)))
	checkSlot(t, p, 3)
	q := newPush(t, 3)
	checkGoesOn(t, q, a, load(headAt, headWord(21, 8)))
	checkGoesOn(t, q, a, store(nextAt+3, linkWord(12), linkWord(8)))
	put(t, a, headAt, headWord(22, 2))
	put(t, a, headAt, headWord(21, 8))
	checkEnds(t, q, a, swap(headAt, headWord(21, 8), headWord(22, 4)))
	checkRow(t, a, 3, 7, 1)
}

// What the second step loads counts, not what stands there ahead of it or behind it.
func TestLinkIsTheOneThatTheSecondStepLoads(t *testing.T) {
	a := laid(t, 20, 3, 7, 1)
	p := free.NewPop()
	checkGoesOn(t, p, a, load(headAt, headWord(20, 4)))
	put(t, a, nextAt+3, linkWord(2))
	checkGoesOn(t, p, a, load(nextAt+3, linkWord(2)))
	put(t, a, nextAt+3, linkWord(11))
	checkEnds(t, p, a, swap(headAt, headWord(20, 4), headWord(21, 2)))
	checkSlot(t, p, 3)
	checkRow(t, a, 1)
}

func TestCountAtItsEnd(t *testing.T) {
	for _, count := range []int{mostCount - 1, mostCount} {
		behind := map[int]int{mostCount - 1: mostCount, mostCount: 0}[count]
		a := laid(t, count, 3, 7, 1)
		checkPop(t, a, count, 3, 8)
		if x := wordAt(a, headAt); x != headWord(behind, 8) {
			t.Errorf("P10.1: the head behind count %d: %d", count, x)
		}
		a = laid(t, count, 3, 7, 1)
		checkPush(t, a, count, 5, 4)
		if x := wordAt(a, headAt); x != headWord(behind, 6) {
			t.Errorf("P10.2: the head behind count %d: %d", count, x)
		}
	}
}

func TestCountBeyondItsEnd(t *testing.T) {
	for link := range 13 {
		x := headWord(mostCount+1, link)
		a := laid(t, 0, 3, 7, 1)
		put(t, a, headAt, x)
		checkFails(t, free.NewPop(), a, load(headAt, x))
		checkFails(t, newPush(t, 5), a, load(headAt, x))
		checkNoRow(t, a)
	}
}

func TestHeadsThatAreNone(t *testing.T) {
	for _, x := range noHeads(t) {
		a := laid(t, 20, 3, 7, 1)
		put(t, a, headAt, x)
		p := free.NewPop()
		checkFails(t, p, a, load(headAt, x))
		checkSlot(t, p, -1)
		for _, slot := range []int{0, 3, 11} {
			checkFails(t, newPush(t, slot), a, load(headAt, x))
		}
	}
}

// A Swap that does not find what was loaded begins again, whatever it finds; what is none then is refused.
func TestHeadsThatAreNoneAtTheSwap(t *testing.T) {
	for _, x := range noHeads(t) {
		a := laid(t, 20, 3, 7, 1)
		p, q := free.NewPop(), newPush(t, 5)
		checkGoesOn(t, p, a, load(headAt, headWord(20, 4)))
		checkGoesOn(t, q, a, load(headAt, headWord(20, 4)))
		checkGoesOn(t, p, a, load(nextAt+3, linkWord(8)))
		checkGoesOn(t, q, a, store(nextAt+5, -12, linkWord(4)))
		put(t, a, headAt, x)
		checkGoesOn(t, p, a, swap(headAt, x, x))
		checkGoesOn(t, q, a, swap(headAt, x, x))
		checkFails(t, p, a, load(headAt, x))
		checkFails(t, q, a, load(headAt, x))
		checkSlot(t, p, -1)
	}
}

func TestLinksThatAreNone(t *testing.T) {
	for slot := range 12 {
		for _, x := range noLinks(t) {
			a := laid(t, 20, slot)
			put(t, a, nextAt+slot, x)
			p := free.NewPop()
			checkGoesOn(t, p, a, load(headAt, headWord(20, slot+1)))
			checkFails(t, p, a, load(nextAt+slot, x))
			checkSlot(t, p, -1)
			checkNoRow(t, a)
		}
	}
}

// Only the first slot's link is looked at, so the others may be anything.
func TestPopLooksAtOneLink(t *testing.T) {
	for _, x := range noLinks(t) {
		a := laid(t, 20, 3, 7, 1)
		put(t, a, nextAt+7, x)
		put(t, a, nextAt+1, x)
		checkPop(t, a, 20, 3, 8)
		checkPush(t, a, 21, 3, 8)
	}
}

// A pop that began again has nothing left of what it loaded ahead of that.
func TestLinksThatAreNoneAtTheSecondTime(t *testing.T) {
	for _, x := range noLinks(t) {
		a := laid(t, 20, 3, 7, 1)
		p := free.NewPop()
		checkGoesOn(t, p, a, load(headAt, headWord(20, 4)))
		checkGoesOn(t, p, a, load(nextAt+3, linkWord(8)))
		pop(t, a)
		checkGoesOn(t, p, a, swap(headAt, headWord(21, 8), headWord(21, 8)))
		put(t, a, nextAt+7, x)
		checkGoesOn(t, p, a, load(headAt, headWord(21, 8)))
		checkFails(t, p, a, load(nextAt+7, x))
		checkSlot(t, p, -1)
	}
}

// checkNilArena looks that a step without an arena is refused.
func checkNilArena(t *testing.T, m machine) {
	t.Helper()
	for range 2 {
		if over, e := m.Step(nil); over || e != api.ErrNil {
			t.Fatalf("P10.3: a step without an arena: %v, error %d", over, e)
		}
	}
}

func TestStepsWithoutAnArena(t *testing.T) {
	a := laid(t, 20, 3, 7, 1)
	p, q := free.NewPop(), newPush(t, 5)
	checkNilArena(t, p)
	checkNilArena(t, q)
	checkGoesOn(t, p, a, load(headAt, headWord(20, 4)))
	checkGoesOn(t, q, a, load(headAt, headWord(20, 4)))
	checkNilArena(t, p)
	checkNilArena(t, q)
	checkGoesOn(t, p, a, load(nextAt+3, linkWord(8)))
	checkGoesOn(t, q, a, store(nextAt+5, -12, linkWord(4)))
	checkNilArena(t, p)
	checkNilArena(t, q)
	checkSlot(t, p, -1)
	checkEnds(t, p, a, swap(headAt, headWord(20, 4), headWord(21, 8)))
	checkNilArena(t, p)
	checkOver(t, p, a)
	checkSlot(t, p, 3)
	checkGoesOn(t, q, a, swap(headAt, headWord(21, 8), headWord(21, 8)))
	checkNilArena(t, q)
	checkPushOn(t, q, a, 21, 5, 8)
	checkNilArena(t, q)
	checkOver(t, q, a)
}

func TestStepsWithoutAnArenaOfWhatFailed(t *testing.T) {
	a := laid(t, 20, 3)
	put(t, a, headAt, 3)
	p, q := free.NewPop(), newPush(t, 5)
	checkFails(t, p, a, load(headAt, 3))
	checkFails(t, q, a, load(headAt, 3))
	checkNilArena(t, p)
	checkNilArena(t, q)
	checkOver(t, p, a)
	checkOver(t, q, a)
	checkSlot(t, p, -1)
}

func TestNilMachines(t *testing.T) {
	var p *free.Pop
	var q *free.Push
	a := arena.New()
	for _, m := range []machine{p, q} {
		for _, b := range []*arena.Arena{a, nil} {
			if over, e := m.Step(b); over || e != api.ErrNil {
				t.Errorf("R3: a step of nil: %v, error %d", over, e)
			}
		}
	}
	if slot := p.Slot(); slot != 0 {
		t.Errorf("R3: Slot of nil: %d", slot)
	}
	if touch, is := a.Last(); is {
		t.Errorf("R3: an access of a nil machine: %+v", touch)
	}
}

// Each call tells a machine of its own.
func TestMachinesAreApart(t *testing.T) {
	a := laid(t, 20, 3, 7, 1)
	p, q := free.NewPop(), free.NewPop()
	finish(t, p, a)
	checkSlot(t, q, -1)
	checkPopOn(t, q, a, 21, 7, 2)
	checkSlot(t, p, 3)
	r, s := newPush(t, 3), newPush(t, 3)
	finish(t, r, a)
	checkPushOn(t, s, laid(t, 0, 4), 0, 3, 5)
}

func TestFromSeveralGoroutines(t *testing.T) {
	var wg sync.WaitGroup
	for n := range 4 {
		wg.Go(func() {
			a := arena.New()
			for slot := range 12 {
				p := free.NewPop()
				for over := false; !over; {
					over, _ = p.Step(a)
				}
				if p.Slot() != slot {
					t.Errorf("R5: a pop of its own goroutine: %d, want %d", p.Slot(), slot)
				}
			}
			q, _ := free.NewPush(n)
			for over := false; !over; {
				over, _ = q.Step(a)
			}
			if row, e := free.Row(a); !slices.Equal(row, []int{n}) || e != api.OK {
				t.Errorf("R5: the row of its own goroutine: %v, error %d", row, e)
			}
		})
	}
	wg.Wait()
}
