package epoch_test

import (
	"slices"
	"sync"
	"testing"

	"pawl/api"
	"pawl/arena"
	"pawl/epoch"
	"pawl/word"
)

const (
	leastInt  = -1 << 63
	mostInt   = 1<<63 - 1
	mostValue = 1099511627775
	// lastEpoch is the last one that may be.
	lastEpoch = 1073741822
	// epochAt, sayAt are the places of chapter 11; sideAt is one that no machine of it touches.
	epochAt = 29
	sayAt   = 30
	sideAt  = 633
)

// machine is an Enter or an Advance.
type machine interface {
	Step(a *arena.Arena) (bool, api.Errno)
}

// laid is an arena of that epoch, in which the threads say these values, from thread 0 on.
func laid(t *testing.T, epoch int, says ...int) *arena.Arena {
	t.Helper()
	a := arena.New()
	put(t, a, epochAt, 4*epoch)
	for thread, said := range says {
		put(t, a, sayAt+thread, 4*said)
	}
	return a
}

// put stores x at a place.
func put(t *testing.T, a *arena.Arena, at int, x int) {
	t.Helper()
	if _, e := a.Store(at, x); e != api.OK {
		t.Fatalf("P2.1: Store at %d: error %d", at, e)
	}
}

// wordAt is the word at a place.
func wordAt(a *arena.Arena, at int) int {
	return a.All()[at]
}

// load, store and swap are the accesses that a step may make.
func load(at int, there int) api.Touch {
	return api.Touch{Kind: 0, At: at, Was: there, Now: there}
}

func store(at int, was int, now int) api.Touch {
	return api.Touch{Kind: 1, At: at, Was: was, Now: now}
}

func swap(at int, was int, now int) api.Touch {
	return api.Touch{Kind: 2, At: at, Was: was, Now: now}
}

// step does one step ahead of which a mark is set, so that a step without an access shows; it tells the access, and whether there was one.
func step(t *testing.T, m machine, a *arena.Arena) (api.Touch, bool, bool, api.Errno) {
	t.Helper()
	put(t, a, sideAt, -99)
	mark, _ := a.Last()
	over, e := m.Step(a)
	got, _ := a.Last()
	return got, got != mark, over, e
}

// checkStep looks that a step makes just this access, with that answer, and changes nothing else.
func checkStep(t *testing.T, m machine, a *arena.Arena, want api.Touch, wantOver bool, wantError api.Errno) {
	t.Helper()
	words := a.All()
	words[sideAt], words[want.At] = -99, want.Now
	got, touched, over, e := step(t, m, a)
	if got != want || !touched {
		t.Fatalf("P11: a step's access: %+v, want %+v", got, want)
	}
	if over != wantOver || e != wantError {
		t.Fatalf("P11: a step with %+v: %v, error %d, want %v, error %d", want, over, e, wantOver, wantError)
	}
	if !slices.Equal(a.All(), words) {
		t.Fatalf("P11: words behind %+v: %v, want %v", want, a.All(), words)
	}
}

// checkGoesOn looks that a step makes this access, and that the machine is not over with it.
func checkGoesOn(t *testing.T, m machine, a *arena.Arena, want api.Touch) {
	t.Helper()
	checkStep(t, m, a, want, false, api.OK)
}

// checkEnds looks that a step makes this access, and that the machine is over with it, for good.
func checkEnds(t *testing.T, m machine, a *arena.Arena, want api.Touch) {
	t.Helper()
	checkStep(t, m, a, want, true, api.OK)
	checkOver(t, m, a)
}

// checkFails looks that a step makes this access, and that the machine is over with an error, for good.
func checkFails(t *testing.T, m machine, a *arena.Arena, want api.Touch) {
	t.Helper()
	checkStep(t, m, a, want, true, api.ErrEpochForm)
	checkOver(t, m, a)
}

// checkOver looks that a machine does nothing more, whatever the arena.
func checkOver(t *testing.T, m machine, a *arena.Arena) {
	t.Helper()
	for _, b := range []*arena.Arena{a, arena.New(), laid(t, 5, 6, 6, 6, 6), laid(t, lastEpoch+1, -1, -1, -1, -1), a} {
		words := b.All()
		words[sideAt] = -99
		got, touched, over, e := step(t, m, b)
		if touched || !slices.Equal(b.All(), words) {
			t.Fatalf("P11: an access of a machine that is over: %+v", got)
		}
		if !over || e != api.OK {
			t.Fatalf("P11: a step of a machine that is over: %v, error %d", over, e)
		}
	}
}

// checkNilArena looks that a step without an arena is refused.
func checkNilArena(t *testing.T, m machine) {
	t.Helper()
	for range 2 {
		if over, e := m.Step(nil); over || e != api.ErrNil {
			t.Fatalf("P11.3: a step without an arena: %v, error %d", over, e)
		}
	}
}

// number is the number of a word that may be.
func number(t *testing.T, w api.Word) int {
	t.Helper()
	x, e := word.Put(w)
	if e != api.OK {
		t.Fatalf("P1.1: Put(%+v): error %d", w, e)
	}
	return x
}

// noValues are words of other kinds, and numbers that are no word at all.
func noValues(t *testing.T) []int {
	t.Helper()
	return []int{
		number(t, api.Word{Kind: api.WordMcas}),
		number(t, api.Word{Kind: api.WordMcas, Slot: 3, Gen: 7}),
		number(t, api.Word{Kind: api.WordMcas, Slot: 11, Gen: 65535}),
		number(t, api.Word{Kind: api.WordEntry}),
		number(t, api.Word{Kind: api.WordEntry, Slot: 1, Gen: 2, Entry: 3, Thread: 1, Seq: 4}),
		number(t, api.Word{Kind: api.WordEntry, Slot: 11, Gen: 65535, Entry: 15, Thread: 3, Seq: 1048575}),
		3, 7, 19, 67, -1, -2, -3, -4, -8, -84, -88, -1 << 32,
		4*mostValue + 3, 4 * (mostValue + 1), 4*(mostValue+1) + 8, 4*(mostValue+1) + 84,
		1 << 62, 1<<62 + 4, 1<<62 + 80, mostInt, mostInt - 3, leastInt, leastInt + 4, leastInt + 80,
	}
}

// noEpochs are words that are none at EpochAt.
func noEpochs(t *testing.T) []int {
	t.Helper()
	return append(noValues(t),
		4*(lastEpoch+1), 4*(lastEpoch+2), 4*(lastEpoch+3), 4*(2*lastEpoch), 4<<31, 4<<32, 4*(1<<32+20), 4*(mostValue-1), 4*mostValue)
}

// epochs are some that may be, the first one and the last among them.
func epochs() []int {
	return []int{0, 1, 2, 3, 20, 255, 256, 1 << 20, lastEpoch - 1, lastEpoch}
}

// noThreads are numbers of no thread.
func noThreads() []int {
	return []int{-1, 4, -2, 5, -3, -4, 8, 12, 15, 16, 255, 256, 599, 603, 604, -16, -30, 1 << 32, 1<<32 + 1, -1 << 32, 1 << 62, 1<<62 + 1, mostInt, mostInt - 1, leastInt, leastInt + 1}
}

// checkNoEnter, checkNoAdvance look that there is no such machine.
func checkNoEnter(t *testing.T, thread int) {
	t.Helper()
	if m, e := epoch.NewEnter(thread); m != nil || e != api.ErrEpochForm {
		t.Errorf("P11.1: NewEnter(%d): %v, error %d", thread, m, e)
	}
}

func checkNoAdvance(t *testing.T, threads int) {
	t.Helper()
	if m, e := epoch.NewAdvance(threads); m != nil || e != api.ErrEpochForm {
		t.Errorf("P11.3: NewAdvance(%d): %v, error %d", threads, m, e)
	}
}

func TestNoThreads(t *testing.T) {
	for _, thread := range noThreads() {
		checkNoEnter(t, thread)
	}
}

func TestNoNumbersOfThreads(t *testing.T) {
	checkNoAdvance(t, 0)
	for _, threads := range noThreads() {
		// Four threads may be, but there is no thread 4.
		if threads != 4 {
			checkNoAdvance(t, threads)
		}
	}
}

// checkLeave looks that Leave makes just its Store.
func checkLeave(t *testing.T, a *arena.Arena, thread int) {
	t.Helper()
	words := a.All()
	want := store(sayAt+thread, words[sayAt+thread], 0)
	words[sideAt], words[want.At] = -99, 0
	put(t, a, sideAt, -99)
	if e := epoch.Leave(a, thread); e != api.OK {
		t.Fatalf("P11.2: Leave of thread %d: error %d", thread, e)
	}
	if got, _ := a.Last(); got != want {
		t.Fatalf("P11.2: the access of Leave of thread %d: %+v, want %+v", thread, got, want)
	}
	if !slices.Equal(a.All(), words) {
		t.Fatalf("P11.2: words behind Leave of thread %d: %v, want %v", thread, a.All(), words)
	}
}

func TestLeaveOfEachThread(t *testing.T) {
	a := laid(t, 5, 6, 5, 6, 5)
	for thread, want := range []api.Touch{
		{Kind: 1, At: 30, Was: 24, Now: 0}, {Kind: 1, At: 31, Was: 20, Now: 0}, {Kind: 1, At: 32, Was: 24, Now: 0}, {Kind: 1, At: 33, Was: 20, Now: 0},
	} {
		checkLeave(t, a, thread)
		if got, _ := a.Last(); got != want {
			t.Errorf("P11.2: the access of Leave of thread %d: %+v, want %+v", thread, got, want)
		}
	}
}

// A thread that is in no region may leave, too; the Store is the same.
func TestLeaveAgain(t *testing.T) {
	for thread := range 4 {
		a := arena.New()
		checkLeave(t, a, thread)
		checkLeave(t, a, thread)
	}
}

// Leave loads nothing, so what stands there, and at EpochAt, may be anything.
func TestLeaveOverAnyNumber(t *testing.T) {
	for _, x := range append(noEpochs(t), 0, 4, 8) {
		for thread := range 4 {
			a := laid(t, 7)
			put(t, a, sayAt+thread, x)
			checkLeave(t, a, thread)
			put(t, a, epochAt, x)
			checkLeave(t, a, thread)
		}
	}
}

func TestLeaveOfNoThread(t *testing.T) {
	for _, thread := range noThreads() {
		a := laid(t, 5, 6, 6, 6, 6)
		words := a.All()
		mark, _ := a.Last()
		if e := epoch.Leave(a, thread); e != api.ErrEpochForm {
			t.Errorf("P11.2: Leave of thread %d: error %d", thread, e)
		}
		if got, _ := a.Last(); got != mark || !slices.Equal(a.All(), words) {
			t.Errorf("P11.2: an access of Leave of thread %d: %+v", thread, got)
		}
	}
}

// An arena that is nil is told ahead of a thread that is none (R6).
func TestLeaveWithoutAnArena(t *testing.T) {
	for _, thread := range append(noThreads(), 0, 1, 2, 3) {
		if e := epoch.Leave(nil, thread); e != api.ErrNil {
			t.Errorf("P11.2: Leave of thread %d without an arena: error %d", thread, e)
		}
	}
}

func TestNilMachines(t *testing.T) {
	var m *epoch.Enter
	var d *epoch.Advance
	a := arena.New()
	for _, m := range []machine{m, d} {
		for _, b := range []*arena.Arena{a, nil} {
			if over, e := m.Step(b); over || e != api.ErrNil {
				t.Errorf("R3: a step of nil: %v, error %d", over, e)
			}
		}
	}
	if m.Epoch() != 0 || d.Moved() {
		t.Errorf("R3: Epoch, Moved of nil: %d, %v", m.Epoch(), d.Moved())
	}
	if touch, is := a.Last(); is {
		t.Errorf("R3: an access of a nil machine: %+v", touch)
	}
}

// Whoever lays a machine out by hand has one that ends, too (R1).
func TestMachinesThatNobodyMade(t *testing.T) {
	for _, m := range []machine{&epoch.Enter{}, &epoch.Advance{}} {
		a := laid(t, 3, 9, 9, 9, 9)
		over := false
		for range 8 {
			over, _ = m.Step(a)
		}
		if !over {
			t.Errorf("R1: a machine that nobody made is not over behind eight steps: %T", m)
		}
	}
}

func TestFromSeveralGoroutines(t *testing.T) {
	var wg sync.WaitGroup
	for n := range 4 {
		wg.Go(func() {
			a := arena.New()
			a.Store(epochAt, 4*7*n)
			for i := range 50 {
				m, _ := epoch.NewEnter(n)
				for over := false; !over; {
					over, _ = m.Step(a)
				}
				d, _ := epoch.NewAdvance(n + 1)
				for over := false; !over; {
					over, _ = d.Step(a)
				}
				if m.Epoch() != 7*n+i || !d.Moved() || wordAt(a, sayAt+n) != 4*(7*n+i+1) || wordAt(a, epochAt) != 4*(7*n+i+1) {
					t.Errorf("R5: machines of their own goroutine: %d, %v, %v", m.Epoch(), d.Moved(), a.All()[epochAt:sayAt+4])
				}
				if e := epoch.Leave(a, n); e != api.OK {
					t.Errorf("R5: Leave in its own goroutine: error %d", e)
				}
			}
		})
	}
	wg.Wait()
}
