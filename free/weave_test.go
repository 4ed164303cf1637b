package free_test

import (
	"slices"
	"testing"

	"pawl/api"
	"pawl/arena"
	"pawl/free"
)

// draw is a row of drawn numbers.
type draw uint64

func (r *draw) next(n int) int {
	*r = *r*6364136223846793005 + 1442695040888963407
	return int(uint64(*r) >> 33 % uint64(n))
}

// world is an arena with machines upon it, and what their steps must have come to.
type world struct {
	arena arena.Arena
	// row is which slots are free, in their row, and count how often it was turned.
	row   []int
	count int
	// had tells who has a slot: a worker's number and 1, or 0, if it is free.
	had     [12]int
	workers []worker
}

// worker has slots, and at most one machine at a time.
type worker struct {
	busy    bool
	pushes  bool
	pop     free.Pop
	push    free.Push
	pushing int
}

// newWorld is one of so many workers, upon that row.
func newWorld(t *testing.T, workers int, count int, slots ...int) *world {
	t.Helper()
	w := &world{arena: *laid(t, count, slots...), row: slices.Clone(slots), count: count, workers: make([]worker, workers)}
	return w
}

// fork is a world that is as this one is, with memory of its own.
func (w *world) fork() *world {
	f := *w
	f.row, f.workers = slices.Clone(w.row), slices.Clone(w.workers)
	return &f
}

// beginPop, beginPush give a worker a machine.
func (w *world) beginPop(i int) {
	w.workers[i].busy, w.workers[i].pushes, w.workers[i].pop = true, false, *free.NewPop()
}

func (w *world) beginPush(t *testing.T, i int, slot int) {
	t.Helper()
	w.workers[i].busy, w.workers[i].pushes, w.workers[i].push, w.workers[i].pushing = true, true, *newPush(t, slot), slot
	// The slot is this worker's until the push is over, and no other push may have it.
	w.had[slot] = i + 1
}

// step does a worker's next one, and looks that all is as it must be then.
func (w *world) step(t *testing.T, i int) {
	t.Helper()
	k := &w.workers[i]
	if k.pushes {
		w.stepPush(t, k)
	} else {
		w.stepPop(t, i, k)
	}
	w.check(t)
}

func (w *world) stepPop(t *testing.T, i int, k *worker) {
	t.Helper()
	over, e := k.pop.Step(&w.arena)
	slot := k.pop.Slot()
	if e != api.OK || !over && slot != -1 {
		t.Fatalf("P10.1: a step: %v, error %d, Slot %d", over, e, slot)
	}
	if !over {
		return
	}
	k.busy = false
	if slot == -1 {
		if len(w.row) != 0 {
			t.Fatalf("P10.1: a pop finds none, of %v", w.row)
		}
		return
	}
	if len(w.row) == 0 || w.row[0] != slot || w.had[slot] != 0 {
		t.Fatalf("P10.1: a pop finds %d, of %v; it is had by %d", slot, w.row, w.had[slot])
	}
	w.row, w.had[slot] = w.row[1:], i+1
	w.count++
}

func (w *world) stepPush(t *testing.T, k *worker) {
	t.Helper()
	over, e := k.push.Step(&w.arena)
	if e != api.OK {
		t.Fatalf("P10.2: a step: error %d", e)
	}
	if !over {
		return
	}
	k.busy = false
	w.row, w.had[k.pushing] = append([]int{k.pushing}, w.row...), 0
	w.count++
}

// check looks that Row tells the free slots, that each slot is had once or free, and that each turn is counted.
func (w *world) check(t *testing.T) {
	t.Helper()
	checkRow(t, &w.arena, w.row...)
	for slot, who := range w.had {
		if (who == 0) != slices.Contains(w.row, slot) {
			t.Fatalf("P10.3: slot %d is had by %d, and the free ones are %v", slot, who, w.row)
		}
	}
	if x := wordAt(&w.arena, headAt); x != headWord(w.count%(mostCount+1), linkTo(w.row)) {
		t.Fatalf("P10: the head %d behind %d turns, with the row %v", x, w.count, w.row)
	}
}

// begin gives a worker a machine that is drawn: a push of a slot that it has, or a pop.
func (w *world) begin(t *testing.T, r *draw, i int) {
	t.Helper()
	var own []int
	for slot, who := range w.had {
		if who == i+1 {
			own = append(own, slot)
		}
	}
	if len(own) == 0 || r.next(2) == 0 {
		w.beginPop(i)
		return
	}
	w.beginPush(t, i, own[r.next(len(own))])
}

// busy are the workers that have a machine.
func (w *world) busy() []int {
	var is []int
	for i, k := range w.workers {
		if k.busy {
			is = append(is, i)
		}
	}
	return is
}

func TestMachinesThatAreWovenAsDrawn(t *testing.T) {
	all := rests()[len(rests())-1]
	for seed := range 60 {
		r := draw(seed)
		// Some begin so near the count's end that it is passed.
		count := []int{0, 7, mostCount - 20, mostCount}[seed%4]
		w := newWorld(t, 2+seed%6, count, all...)
		for range 3000 {
			i := r.next(len(w.workers))
			if !w.workers[i].busy {
				w.begin(t, &r, i)
			}
			w.step(t, i)
		}
		if w.count < count+100 {
			t.Errorf("P10: only %d turns", w.count-count)
		}
		for _, i := range w.busy() {
			for range 5 {
				if w.workers[i].busy {
					w.step(t, i)
				}
			}
			if w.workers[i].busy {
				t.Errorf("P10: a machine alone is not over after five steps")
			}
		}
	}
}

// weave tries every way in which the workers' machines may take turns, and tells how many there are.
func (w *world) weave(t *testing.T) int {
	t.Helper()
	is := w.busy()
	if len(is) == 0 {
		return 1
	}
	ways := 0
	for _, i := range is {
		f := w.fork()
		f.step(t, i)
		ways += f.weave(t)
	}
	return ways
}

func TestMachinesThatAreWovenInEveryWay(t *testing.T) {
	all := []int{0, 1, 2, 3, 4, 5, 6, 7, 8, 9, 10, 11}
	for _, c := range []struct {
		free   int
		pops   int
		pushes int
	}{
		{0, 2, 0}, {0, 1, 1}, {0, 0, 2}, {1, 2, 0}, {1, 1, 1}, {2, 2, 0}, {12, 2, 0},
		{0, 2, 1}, {0, 1, 2}, {1, 3, 0}, {1, 2, 1},
	} {
		w := newWorld(t, c.pops+c.pushes, mostCount-1, all[:c.free]...)
		// A worker that never steps has what is neither free nor to be pushed.
		for slot := c.free; slot < 12; slot++ {
			w.had[slot] = 99
		}
		for i := range c.pops {
			w.beginPop(i)
		}
		for i := range c.pushes {
			w.beginPush(t, c.pops+i, 11-i)
		}
		if ways := w.weave(t); ways < 2 {
			t.Errorf("P10: only %d ways of %+v", ways, c)
		}
	}
}
