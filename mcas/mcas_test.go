package mcas_test

import (
	"slices"
	"sync"
	"testing"

	"pawl/api"
	"pawl/arena"
	"pawl/mcas"
)

const (
	leastInt  = -1 << 63
	mostInt   = 1<<63 - 1
	mostValue = 1099511627775
	mostGen   = 65535
	mostSeq   = 1048575
	mostDepth = 18
	// sideAt is a place that no helper touches.
	sideAt = 20
)

// draw is a row of drawn numbers.
type draw uint64

func (r *draw) next(n int) int {
	*r = *r*6364136223846793005 + 1442695040888963407
	return int(uint64(*r) >> 33 % uint64(n))
}

// The words, worked out by hand: a value's, a reference to an entry, one to a descriptor, and a descriptor's first word.
func val(v int) int {
	return 4 * v
}

func entryOf(slot int, gen int, entry int, thread int, seq int) int {
	return 4*((((gen*16+slot)*16+entry)*4+thread)*1048576+seq) + 1
}

func mine(slot int, gen int) int {
	return 4*(16*gen+slot) + 2
}

func open(gen int) int {
	return 16 * gen
}

func won(gen int) int {
	return 16*gen + 4
}

func lost(gen int) int {
	return 16*gen + 8
}

// The places of a descriptor, worked out by hand.
func firstAt(slot int) int {
	return []int{34, 84, 134, 184, 234, 284, 334, 384, 434, 484, 534, 584}[slot]
}

func countAt(slot int) int {
	return firstAt(slot) + 1
}

func cellAt(slot int, entry int) int {
	return firstAt(slot) + 2 + 3*entry
}

func wasAt(slot int, entry int) int {
	return firstAt(slot) + 3 + 3*entry
}

func nowAt(slot int, entry int) int {
	return firstAt(slot) + 4 + 3*entry
}

// load and swap are the accesses that a step may make: of a swap what was there, and what is there then.
func load(at int, there int) api.Touch {
	return api.Touch{Kind: 0, At: at, Was: there, Now: there}
}

func swap(at int, there int, then int) api.Touch {
	return api.Touch{Kind: 2, At: at, Was: there, Now: then}
}

// put stores x at a place.
func put(t *testing.T, a *arena.Arena, at int, x int) {
	t.Helper()
	if _, e := a.Store(at, x); e != api.OK {
		t.Fatalf("P2.1: Store at %d: error %d", at, e)
	}
}

// dirty is an arena with a number at each place that is no word.
func dirty(t *testing.T) *arena.Arena {
	t.Helper()
	a := arena.New()
	for at := range 634 {
		put(t, a, at, -7-4*at)
	}
	return a
}

// lay puts a descriptor into an arena.
func lay(t *testing.T, a *arena.Arena, slot int, first int, ss ...api.Swap) {
	t.Helper()
	put(t, a, firstAt(slot), first)
	put(t, a, countAt(slot), val(len(ss)))
	for e, s := range ss {
		put(t, a, cellAt(slot, e), val(s.Cell))
		put(t, a, wasAt(slot, e), val(s.Was))
		put(t, a, nowAt(slot, e), val(s.Now))
	}
}

// laid is an arena with that descriptor, whose cells all hold what was, and no word anywhere else.
func laid(t *testing.T, slot int, first int, ss ...api.Swap) *arena.Arena {
	t.Helper()
	a := dirty(t)
	lay(t, a, slot, first, ss...)
	for _, s := range ss {
		put(t, a, s.Cell, val(s.Was))
	}
	return a
}

// full are entries of all cells.
func full() []api.Swap {
	ss := make([]api.Swap, 16)
	for cell := range ss {
		ss[cell] = api.Swap{Cell: cell, Was: 1000 + cell, Now: 2000 - cell}
	}
	return ss
}

// track follows a helper, and knows what its Seq and Through must be.
type track struct {
	t      *testing.T
	a      *arena.Arena
	h      *mcas.Help
	thread int
	seq    int
	slot   int
	gen    int
	// frameSlot, frameGen are the descriptor of the top frame.
	frameSlot int
	frameGen  int
}

// newHelp is one of what may be.
func newHelp(t *testing.T, thread int, seq int, ref int) *mcas.Help {
	t.Helper()
	h, e := mcas.New(thread, seq, ref)
	if h == nil || e != api.OK {
		t.Fatalf("P14.1: New(%d, %d, %d): %v, error %d", thread, seq, ref, h, e)
	}
	return h
}

// begin is a helper ahead of its first step.
func begin(t *testing.T, a *arena.Arena, thread int, seq int, ref int) *track {
	t.Helper()
	k := &track{t: t, a: a, h: newHelp(t, thread, seq, ref), thread: thread, seq: seq, slot: -1}
	k.check(false)
	return k
}

// in tells that the steps to follow are those of a frame of that descriptor.
func (k *track) in(slot int, gen int) {
	k.frameSlot, k.frameGen = slot, gen
}

// check looks what Won, Seq and Through are.
func (k *track) check(wantWon bool) {
	k.t.Helper()
	slot, gen := k.h.Through()
	if k.h.Won() != wantWon {
		k.t.Fatalf("P14.2: Won: %v, want %v", k.h.Won(), wantWon)
	}
	if k.h.Seq() != k.seq {
		k.t.Fatalf("P14.2: Seq: %d, want %d", k.h.Seq(), k.seq)
	}
	if slot != k.slot || gen != k.gen {
		k.t.Fatalf("P14.3: Through: %d, %d, want %d, %d", slot, gen, k.slot, k.gen)
	}
}

// step does one step ahead of which a mark is set, so that a step without an access shows; it tells the access, and whether there was one.
func step(t *testing.T, h *mcas.Help, a *arena.Arena) (api.Touch, bool, bool, api.Errno) {
	t.Helper()
	put(t, a, sideAt, -99)
	mark, _ := a.Last()
	over, e := h.Step(a)
	got, _ := a.Last()
	return got, got != mark, over, e
}

// step looks that a step makes just this access, with that answer, and changes nothing else.
func (k *track) step(want api.Touch, wantOver bool, wantError api.Errno) {
	k.t.Helper()
	words := k.a.All()
	words[sideAt], words[want.At] = -99, want.Now
	got, touched, over, e := step(k.t, k.h, k.a)
	if got != want || !touched {
		k.t.Fatalf("P14.2: a step's access: %+v, want %+v", got, want)
	}
	if over != wantOver || e != wantError {
		k.t.Fatalf("P14.2: a step with %+v: %v, error %d, want %v, error %d", want, over, e, wantOver, wantError)
	}
	if !slices.Equal(k.a.All(), words) {
		k.t.Fatalf("P14.2: words behind %+v: %v, want %v", want, k.a.All(), words)
	}
	k.slot, k.gen = k.frameSlot, k.frameGen
}

// goes looks that a step makes this access, and that the helper goes on.
func (k *track) goes(want api.Touch) {
	k.t.Helper()
	k.step(want, false, api.OK)
	k.check(false)
}

// puts does the same of a swap of row 5, which uses up a number.
func (k *track) puts(want api.Touch) {
	k.t.Helper()
	k.step(want, false, api.OK)
	k.usesUp()
	k.check(false)
}

// ends looks that a step makes this access, and that the helper is over with it, for good.
func (k *track) ends(want api.Touch, wantWon bool) {
	k.t.Helper()
	k.step(want, true, api.OK)
	k.check(wantWon)
	k.checkOver(wantWon)
}

// fails looks that a step makes this access, and that the helper is over with an error, for good.
func (k *track) fails(want api.Touch, wantWon bool) {
	k.t.Helper()
	k.step(want, true, api.ErrMcasForm)
	k.check(wantWon)
	k.checkOver(wantWon)
}

// putsAndFails does the same of a swap of row 5.
func (k *track) putsAndFails(want api.Touch) {
	k.t.Helper()
	k.step(want, true, api.ErrMcasForm)
	k.usesUp()
	k.check(false)
	k.checkOver(false)
}

func (k *track) usesUp() {
	k.seq++
	if k.seq > mostSeq {
		k.seq = 0
	}
}

// checkOver looks that a helper does nothing more, whatever the arena.
func (k *track) checkOver(wantWon bool) {
	k.t.Helper()
	for _, b := range []*arena.Arena{k.a, arena.New(), dirty(k.t), laid(k.t, 0, open(0), full()...), k.a} {
		words := b.All()
		words[sideAt] = -99
		got, touched, over, e := step(k.t, k.h, b)
		if touched || !slices.Equal(b.All(), words) {
			k.t.Fatalf("P14.2: an access of a helper that is over: %+v", got)
		}
		if !over || e != api.OK {
			k.t.Fatalf("P14.2: a step of a helper that is over: %v, error %d", over, e)
		}
		k.check(wantWon)
	}
	k.checkNilArena(wantWon)
}

// checkNilArena looks that a step without an arena is refused, and changes nothing.
func (k *track) checkNilArena(wantWon bool) {
	k.t.Helper()
	for range 2 {
		if over, e := k.h.Step(nil); over || e != api.ErrNil {
			k.t.Fatalf("P14.2: a step without an arena: %v, error %d", over, e)
		}
		k.check(wantWon)
	}
}

// finish does a helper's steps until it is over; they must be fewer than that.
func finish(t *testing.T, h *mcas.Help, a *arena.Arena, most int) {
	t.Helper()
	for range most {
		over, e := h.Step(a)
		if e != api.OK {
			t.Fatalf("P14.2: a step: error %d", e)
		}
		if over {
			return
		}
	}
	t.Fatalf("P14.2: a helper is not over after %d steps", most)
}

// checkNoHelp looks that New refuses.
func checkNoHelp(t *testing.T, thread int, seq int, ref int) {
	t.Helper()
	if h, e := mcas.New(thread, seq, ref); h != nil || e != api.ErrMcasForm {
		t.Errorf("P14.1: New(%d, %d, %d): %v, error %d", thread, seq, ref, h, e)
	}
}

// references are of both kinds, with each field at its edges.
func references() []int {
	xs := []int{}
	for _, slot := range []int{0, 1, 6, 11} {
		for _, gen := range []int{0, 1, 300, mostGen} {
			xs = append(xs, mine(slot, gen))
			for _, entry := range []int{0, 9, 15} {
				xs = append(xs, entryOf(slot, gen, entry, 0, 0), entryOf(slot, gen, entry, 3, mostSeq), entryOf(slot, gen, entry, 2, 77))
			}
		}
	}
	return xs
}

// values are words that are no references.
func values() []int {
	return []int{val(0), val(1), val(7), val(16), val(mostGen), val(1 << 30), val(mostValue - 1), val(mostValue)}
}

// noWords are numbers of no word.
func noWords() []int {
	return []int{
		3, 7, 19, mostInt, -1, -2, -3, -4, -8, -64, leastInt, leastInt + 1, leastInt + 2, leastInt + 4, -1 << 32,
		val(mostValue + 1), val(mostValue + 2), 1 << 62, mostInt - 3,
		mine(12, 0), mine(15, 0), mine(12, mostGen), mine(0, mostGen+1), mine(11, mostGen+1), mine(0, 1<<40), mostInt - 1,
		entryOf(12, 0, 0, 0, 0), entryOf(15, 9, 1, 1, 1), entryOf(0, mostGen+1, 0, 0, 0), entryOf(11, mostGen+1, 15, 3, mostSeq), mostInt - 2,
	}
}

// noValues are words of references, and numbers of no word.
func noValues() []int {
	return append(noWords(), mine(0, 0), mine(3, 7), mine(11, mostGen), entryOf(0, 0, 0, 0, 0), entryOf(1, 2, 3, 1, 4), entryOf(11, mostGen, 15, 3, mostSeq))
}

func noThreads() []int {
	return []int{-1, 4, -2, 5, -4, 8, 255, 256, 1<<32 - 1, 1 << 32, 1<<32 + 1, -1 << 32, 1 << 62, mostInt, leastInt, leastInt + 1}
}

func noSeqs() []int {
	return []int{-1, mostSeq + 1, -2, mostSeq + 2, 2*mostSeq + 2, 1 << 31, 1<<32 - 1, 1 << 32, 1<<32 + 5, -mostSeq, -1 << 32, 1 << 62, mostInt, leastInt, leastInt + 1}
}

func TestNewOfWhatMayBe(t *testing.T) {
	a := arena.New()
	for _, ref := range references() {
		for thread := range 4 {
			for _, seq := range []int{0, 1, 500000, mostSeq - 1, mostSeq} {
				begin(t, a, thread, seq, ref)
			}
		}
	}
	if got, touched := a.Last(); touched {
		t.Errorf("P14.1: New made an access: %+v", got)
	}
}

func TestNewOfWhatMayNotBe(t *testing.T) {
	for _, ref := range references() {
		for _, thread := range noThreads() {
			checkNoHelp(t, thread, 0, ref)
			checkNoHelp(t, thread, mostSeq, ref)
			checkNoHelp(t, thread, -1, ref)
		}
		for _, seq := range noSeqs() {
			for thread := range 4 {
				checkNoHelp(t, thread, seq, ref)
			}
		}
	}
	for _, ref := range append(values(), noWords()...) {
		for thread := range 4 {
			checkNoHelp(t, thread, 0, ref)
			checkNoHelp(t, thread, 9, ref)
			checkNoHelp(t, thread, mostSeq, ref)
		}
		checkNoHelp(t, 4, mostSeq+1, ref)
	}
}

// Layer 1's numbers have room for more slots than there are; those are refused.
func TestNewOfEachReferenceInARow(t *testing.T) {
	for x := range 1 << 12 {
		slot := x / 4 % 16
		if x%4 == 1 || x%4 == 2 && slot < 12 {
			newHelp(t, 2, 5, x)
		} else {
			checkNoHelp(t, 2, 5, x)
		}
	}
}

func TestNilHelp(t *testing.T) {
	var h *mcas.Help
	a := laid(t, 0, open(0), full()...)
	words := a.All()
	mark, _ := a.Last()
	for _, b := range []*arena.Arena{a, nil} {
		if over, e := h.Step(b); over || e != api.ErrNil {
			t.Errorf("R3: a step of nil: %v, error %d", over, e)
		}
	}
	slot, gen := h.Through()
	if h.Won() || h.Seq() != 0 || slot != 0 || gen != 0 {
		t.Errorf("R3: of nil: Won %v, Seq %d, Through %d, %d", h.Won(), h.Seq(), slot, gen)
	}
	if got, _ := a.Last(); got != mark || !slices.Equal(a.All(), words) {
		t.Errorf("R3: an access of a nil helper: %+v", got)
	}
}

// A step without an arena is refused ahead of the first step, between any two, and behind the last.
func TestStepsWithoutAnArena(t *testing.T) {
	a := laid(t, 3, open(7), api.Swap{Cell: 2, Was: 5, Now: 6})
	k := begin(t, a, 1, 9, mine(3, 7))
	k.in(3, 7)
	p := entryOf(3, 7, 0, 1, 9)
	for i, want := range []api.Touch{
		load(184, 112), load(185, 4), load(186, 8), load(187, 20), swap(2, 20, p), load(184, 112), swap(2, p, mine(3, 7)),
		swap(184, 112, 116), load(184, 116), load(185, 4), load(186, 8), load(188, 24),
	} {
		k.checkNilArena(false)
		k.step(want, false, api.OK)
		if i == 4 {
			k.usesUp()
		}
	}
	k.checkNilArena(false)
	k.ends(swap(2, mine(3, 7), 24), true)
	put(t, a, 2, p)
	k = begin(t, a, 1, 9, p)
	k.in(3, 7)
	for _, want := range []api.Touch{load(186, 8), load(187, 20), load(184, 116)} {
		k.checkNilArena(false)
		k.goes(want)
	}
	k.checkNilArena(false)
	k.ends(swap(2, p, 20), false)
}

func TestStepsWithoutAnArenaOfWhatFailed(t *testing.T) {
	k := begin(t, dirty(t), 0, 0, mine(3, 7))
	k.in(3, 7)
	k.fails(load(184, -7-4*184), false)
	k.checkNilArena(false)
}

// Each call tells a helper of its own.
func TestHelpersAreApart(t *testing.T) {
	ss := []api.Swap{{Cell: 2, Was: 5, Now: 6}}
	a, b := laid(t, 3, open(7), ss...), laid(t, 3, open(7), ss...)
	k, m := begin(t, a, 1, 9, mine(3, 7)), begin(t, b, 1, 9, mine(3, 7))
	finish(t, k.h, a, 20)
	m.check(false)
	checkAlone(m, 3, 7, ss, -1)
	k.seq, k.slot, k.gen = 10, 3, 7
	k.check(true)
}

func TestFromSeveralGoroutines(t *testing.T) {
	var wg sync.WaitGroup
	for n := range 4 {
		a := laid(t, n, open(n), full()...)
		wg.Go(func() {
			for range 200 {
				if h, e := mcas.New(n+4, 0, mine(n, n)); h != nil || e != api.ErrMcasForm {
					t.Errorf("R5: New in its own goroutine: %v, error %d", h, e)
				}
				h, e := mcas.New(n, 7, mine(n, n))
				for over := false; !over && e == api.OK; {
					over, e = h.Step(a)
				}
				// The first helper puts all 16 references, and those behind it find the descriptor won.
				if e != api.OK || !h.Won() || h.Seq() != 7 && h.Seq() != 23 {
					t.Errorf("R5: a helper in its own goroutine: error %d, Won %v, Seq %d", e, h.Won(), h.Seq())
				}
			}
		})
	}
	wg.Wait()
}
