package epoch_test

import (
	"testing"

	"pawl/api"
	"pawl/arena"
	"pawl/epoch"
)

// draw is a row of drawn numbers.
type draw uint64

func (r *draw) next(n int) int {
	*r = *r*6364136223846793005 + 1442695040888963407
	return int(uint64(*r) >> 33 % uint64(n))
}

// What a worker's rest tells it to do: enter, leave, advance.
const (
	enters   = 'E'
	leaves   = 'L'
	advances = 'A'
)

// worker is a thread, with at most one machine at a time.
type worker struct {
	rest    string
	busy    bool
	enter   epoch.Enter
	advance epoch.Advance
	// region is the epoch and 1 of the region that it is in, or 0.
	region int
}

// state is what the steps of some threads must have come to; two that are alike go on alike.
type state struct {
	threads int
	epoch   int
	says    [4]int
	workers [4]worker
}

// world is an arena with threads upon it.
type world struct {
	arena arena.Arena
	state
	tally tally
}

// tally is how often what was seen.
type tally struct {
	enters  int
	agains  int
	moves   int
	refused int
	behind  int
}

// newWorld is one of so many threads, in that epoch, with all of them outside.
func newWorld(t *testing.T, threads int, epoch int) *world {
	t.Helper()
	return &world{arena: *laid(t, epoch), state: state{threads: threads, epoch: epoch}}
}

// step does a thread's next one, and looks that all is as it must be then.
func (w *world) step(t *testing.T, i int) {
	t.Helper()
	k := &w.workers[i]
	moved := false
	if !k.busy {
		w.begin(t, i, k)
	}
	switch k.rest[0] {
	case enters:
		w.stepEnter(t, i, k)
	case leaves:
		w.leave(t, i, k)
	case advances:
		moved = w.stepAdvance(t, k)
	}
	if !k.busy {
		k.rest = k.rest[1:]
	}
	w.check(t, moved)
}

// begin gives a thread the machine that it asks for.
func (w *world) begin(t *testing.T, i int, k *worker) {
	t.Helper()
	k.busy = true
	switch k.rest[0] {
	case enters:
		k.enter = *newEnter(t, i)
	case advances:
		k.advance = *newAdvance(t, w.threads)
	}
}

// stepEnter does a step of an Enter; the thread is inside from its last one on.
func (w *world) stepEnter(t *testing.T, i int, k *worker) {
	t.Helper()
	was, said := k.enter.Epoch(), w.says[i]
	over, e := k.enter.Step(&w.arena)
	if e != api.OK {
		t.Fatalf("P11.1: a step: error %d", e)
	}
	if said != 0 && k.enter.Epoch() != was {
		w.tally.agains++
	}
	if !over {
		return
	}
	k.busy, k.region = false, k.enter.Epoch()+1
	w.tally.enters++
	if k.enter.Epoch() != w.epoch {
		t.Fatalf("P11.1: an Enter of epoch %d is over in epoch %d", k.enter.Epoch(), w.epoch)
	}
	k.enter = epoch.Enter{}
}

// leave lets a thread leave; it is outside from then on.
func (w *world) leave(t *testing.T, i int, k *worker) {
	t.Helper()
	if e := epoch.Leave(&w.arena, i); e != api.OK {
		t.Fatalf("P11.2: Leave of thread %d: error %d", i, e)
	}
	k.busy, k.region = false, 0
}

// stepAdvance does a step of an Advance, and tells whether it moved the epoch.
func (w *world) stepAdvance(t *testing.T, k *worker) bool {
	t.Helper()
	over, e := k.advance.Step(&w.arena)
	moved := k.advance.Moved()
	if e != api.OK || moved && !over {
		t.Fatalf("P11.3: a step: %v, error %d, Moved %v", over, e, moved)
	}
	if !over {
		return false
	}
	k.busy, k.advance = false, epoch.Advance{}
	if moved {
		w.tally.moves++
	} else {
		w.tally.refused++
	}
	return moved
}

// check looks that the epoch is where it must be, and that what each thread says is so.
func (w *world) check(t *testing.T, moved bool) {
	t.Helper()
	words := w.arena.All()
	if moved {
		w.epoch++
	}
	if words[epochAt] != 4*w.epoch {
		t.Fatalf("P11.4: the epoch: %d, want %d", words[epochAt], 4*w.epoch)
	}
	for i := range w.threads {
		k := &w.workers[i]
		w.says[i] = words[sayAt+i] / 4
		// Only who enters may say another thing than where it is.
		entering := k.busy && k.rest[0] == enters
		if !entering && words[sayAt+i] != 4*k.region {
			t.Fatalf("P11.1: thread %d says %d, with the region %d", i, words[sayAt+i], k.region)
		}
		if k.region == 0 {
			continue
		}
		in := k.region - 1
		if w.epoch != in && w.epoch != in+1 {
			t.Fatalf("P11.4: thread %d is in a region of epoch %d in epoch %d", i, in, w.epoch)
		}
		if w.epoch == in+1 {
			w.tally.behind++
		}
	}
}

// going are the threads that have something to do.
func (w *world) going() []int {
	var is []int
	for i := range w.threads {
		if w.workers[i].rest != "" {
			is = append(is, i)
		}
	}
	return is
}

// ask gives a thread that has nothing to do something that is drawn.
func (w *world) ask(r *draw, i int) {
	k := &w.workers[i]
	switch {
	case r.next(2) == 0:
		k.rest = string(advances)
	case k.region == 0:
		k.rest = string(enters)
	default:
		k.rest = string(leaves)
	}
}

func TestThreadsThatAreWovenAsDrawn(t *testing.T) {
	for seed := range 80 {
		r := draw(seed)
		threads := 1 + seed%4
		first := []int{0, 20, 1 << 20, lastEpoch - 10000}[seed/4%4]
		w := newWorld(t, threads, first)
		// Some go now and then by turns, some by long runs of one.
		run := 1 + seed%7
		for range 3000 / run {
			i := r.next(threads)
			for range run {
				if w.workers[i].rest == "" {
					w.ask(&r, i)
				}
				w.step(t, i)
			}
		}
		got := w.tally
		if got.enters < 30 || got.moves < 30 {
			t.Errorf("P11: seed %d: %+v", seed, got)
		}
		if threads > 1 && run == 1 && (got.agains == 0 || got.refused == 0 || got.behind == 0) {
			t.Errorf("P11: seed %d: %+v", seed, got)
		}
	}
}

// A thread that stays where it is holds the epoch, at the next one at most, whatever the others do.
func TestThreadThatStaysInside(t *testing.T) {
	for threads := 1; threads <= 4; threads++ {
		for stays := range threads {
			w := newWorld(t, threads, 20)
			w.workers[stays].rest = "E"
			for w.workers[stays].rest != "" {
				w.step(t, stays)
			}
			r := draw(7)
			for range 500 {
				i := r.next(threads)
				if w.workers[i].rest == "" && i == stays {
					w.workers[i].rest = "A"
				}
				if w.workers[i].rest == "" {
					w.ask(&r, i)
				}
				w.step(t, i)
			}
			if w.epoch != 21 || w.tally.moves != 1 {
				t.Errorf("P11.4: with a thread that stays in epoch 20: epoch %d", w.epoch)
			}
		}
	}
}

// explore tries every way in which the threads may take turns, each state once, and tells all that was seen.
func (w *world) explore(t *testing.T, seen map[state]bool, all *tally) {
	t.Helper()
	if seen[w.state] {
		return
	}
	seen[w.state] = true
	for _, i := range w.going() {
		f := *w
		f.tally = tally{}
		f.step(t, i)
		all.enters += f.tally.enters
		all.agains += f.tally.agains
		all.moves += f.tally.moves
		all.refused += f.tally.refused
		all.behind += f.tally.behind
		f.explore(t, seen, all)
	}
}

func TestThreadsThatAreWovenInEveryWay(t *testing.T) {
	for _, rests := range [][]string{
		{"ELEL", "AAA"}, {"EALEAL", "EALEAL"}, {"EAAL", "ELAEL"}, {"AELA", "AAELAA"}, {"EAAAL", "AAAA"},
		{"EL", "AA", "AA"}, {"EAL", "EL", "A"}, {"EL", "EL", "AA"}, {"EALEAL", "EALEAL", "EALEAL"},
		{"EL", "A", "A", "A"}, {"EAL", "EAL", "EAL", "EAL"},
	} {
		w := newWorld(t, len(rests), 3)
		for i, rest := range rests {
			w.workers[i].rest = rest
		}
		var all tally
		seen := map[state]bool{}
		w.explore(t, seen, &all)
		if all.enters == 0 || all.agains == 0 || all.moves == 0 || all.refused == 0 || all.behind == 0 {
			t.Errorf("P11: %v: %d states, %+v", rests, len(seen), all)
		}
	}
}
