package limbo_test

import (
	"testing"

	"pawl/api"
	"pawl/arena"
	"pawl/epoch"
	"pawl/limbo"
)

// What a worker's rest tells it to do: enter, leave, advance; the owner has a descriptor at a cell, ends it and retires its slot, and takes what is ripe where it enters; a holder looks for a reference there, puts it again at a second cell, and takes it off; a finder looks there.
const (
	enters   = 'E'
	leaves   = 'L'
	advances = 'A'
	begins   = 'b'
	ends     = 'e'
	retires  = 'r'
	looks    = 'l'
	puts     = 'p'
	takesOff = 'o'
	finds    = 'f'
)

const (
	// epochAt is where the epoch is; firstCell and secondCell are the cells.
	epochAt    = 29
	firstCell  = 0
	secondCell = 1
	// reference is what stands for a reference of the slot.
	reference = 4
)

// worker is a thread, with at most one machine at a time.
type worker struct {
	rest    string
	busy    bool
	enter   epoch.Enter
	advance epoch.Advance
	// has tells whether it has a reference, had whether it had one as the slot was retired.
	has bool
	had bool
}

// state is what the steps of some threads have come to; two that are alike go on alike.
type state struct {
	threads int
	epoch   int
	cells   [2]int
	says    [4]int
	workers [4]worker
	waits   bool
	retired api.Retired
}

// world is an arena with threads upon it; the first one is the owner of the slot.
type world struct {
	arena arena.Arena
	state
}

// tally is how often what was seen.
type tally struct {
	ripe int
	// late[n] is how often a Take n epochs behind the slot's end left it to wait while it was known.
	late [8]int
	// held[n] is how often one that had a reference at that end is there n epochs behind it, found[n] how often one is that found it later.
	held  [8]int
	found [8]int
	again int
}

// newWorld is one in which each thread has that to do.
func newWorld(rests []string) *world {
	w := &world{arena: *arena.New()}
	w.threads = len(rests)
	for i, rest := range rests {
		w.workers[i].rest = rest
	}
	return w
}

// step does a thread's next one.
func (w *world) step(t *testing.T, i int, all *tally) {
	t.Helper()
	k := &w.workers[i]
	switch k.rest[0] {
	case enters:
		w.stepEnter(t, i, k, all)
	case leaves:
		epoch.Leave(&w.arena, i)
		k.has, k.had = false, false
	case advances:
		w.stepAdvance(t, k)
	case begins:
		w.arena.Store(firstCell, reference)
	case ends:
		w.arena.Store(firstCell, 0)
	case retires:
		w.retire(t)
	default:
		w.access(k, all)
	}
	if !k.busy {
		k.rest = k.rest[1:]
	}
	w.note(all)
}

// access does a step of one that is not the slot's owner.
func (w *world) access(k *worker, all *tally) {
	switch k.rest[0] {
	case looks:
		x, _ := w.arena.Load(firstCell)
		k.has = x == reference
	case finds:
		x, _ := w.arena.Load(secondCell)
		k.has = x == reference
	case puts:
		if k.has {
			w.arena.Store(secondCell, reference)
		}
		if k.had {
			all.again++
		}
	case takesOff:
		w.arena.Store(secondCell, 0)
	}
}

// stepEnter does a step of an Enter; with its last one the owner takes what is ripe.
func (w *world) stepEnter(t *testing.T, i int, k *worker, all *tally) {
	t.Helper()
	if !k.busy {
		m, _ := epoch.NewEnter(i)
		k.enter, k.busy = *m, true
	}
	over, e := k.enter.Step(&w.arena)
	if e != api.OK {
		t.Fatalf("P11.1: a step: error %d", e)
	}
	if !over {
		return
	}
	if i == 0 && w.waits {
		w.take(t, k.enter.Epoch(), all)
	}
	k.enter, k.busy = epoch.Enter{}, false
}

// stepAdvance does a step of an Advance.
func (w *world) stepAdvance(t *testing.T, k *worker) {
	t.Helper()
	if !k.busy {
		m, _ := epoch.NewAdvance(w.threads)
		k.advance, k.busy = *m, true
	}
	over, e := k.advance.Step(&w.arena)
	if e != api.OK {
		t.Fatalf("P11.3: a step: error %d", e)
	}
	if over {
		k.advance, k.busy = epoch.Advance{}, false
	}
}

// retire puts the slot in limbo, with the epoch that is loaded then.
func (w *world) retire(t *testing.T) {
	t.Helper()
	x, _ := w.arena.Load(epochAt)
	rs, e := limbo.Add(nil, 5, x/4)
	if e != api.OK || len(rs) != 1 {
		t.Fatalf("P12.1: Add(5, %d) to no row: %v, error %d", x/4, rs, e)
	}
	w.waits, w.retired = true, rs[0]
	for i := range w.threads {
		w.workers[i].had = w.workers[i].has
	}
}

// take takes the slot out of limbo, if it is ripe; then no thread may have a reference, and none may stand in a cell.
func (w *world) take(t *testing.T, epoch int, all *tally) {
	t.Helper()
	slots, rest, e := limbo.Take([]api.Retired{w.retired}, epoch)
	if e != api.OK || len(slots)+len(rest) != 1 {
		t.Fatalf("P12.1: Take([%+v], %d): %v, %v, error %d", w.retired, epoch, slots, rest, e)
	}
	if len(slots) == 0 {
		if w.isKnown() {
			all.late[epoch-w.retired.Epoch]++
		}
		return
	}
	all.ripe++
	w.waits = false
	if w.isKnown() {
		t.Fatalf("P12.2: a slot that was retired at %d is taken at %d, and a thread has a reference", w.retired.Epoch, epoch)
	}
}

// isKnown tells whether a thread has a reference, or a cell.
func (w *world) isKnown() bool {
	for _, k := range w.workers {
		if k.has {
			return true
		}
	}
	words := w.arena.All()
	return words[firstCell] == reference || words[secondCell] == reference
}

// note keeps what is there behind a step, and counts what is told of a slot that waits.
func (w *world) note(all *tally) {
	words := w.arena.All()
	w.epoch = words[epochAt] / 4
	w.cells = [2]int(words[firstCell : secondCell+1])
	w.says = [4]int(words[30:34])
	if !w.waits {
		return
	}
	for _, k := range w.workers {
		switch late := w.epoch - w.retired.Epoch; {
		case k.had:
			all.held[late]++
		case k.has:
			all.found[late]++
		}
	}
}

// explore tries every way in which the threads may take turns, each state once, and tells all that was seen.
func (w *world) explore(t *testing.T, seen map[state]bool, all *tally) {
	t.Helper()
	if seen[w.state] {
		return
	}
	seen[w.state] = true
	for i := range w.threads {
		if w.workers[i].rest == "" {
			continue
		}
		f := *w
		f.step(t, i, all)
		f.explore(t, seen, all)
	}
}

// The owner ends its descriptor, and takes its slot when it is ripe, whatever the others do between: some had a reference as it was retired, and put it again; some find that.
func TestNoneKnowsASlotThatIsRipe(t *testing.T) {
	for _, rests := range [][]string{
		{"EberLAELAELAE", "ElpoL", "EfL"},
		{"EberLAELAELAE", "ElpoLA", "EfLA"},
		{"EberLAELAELAE", "AElpoL", "EfL"},
		{"EberLAELAELAELAE", "ElpopoL", "EfLEfL"},
	} {
		var all tally
		seen := map[state]bool{}
		newWorld(rests).explore(t, seen, &all)
		if all.ripe == 0 || all.again == 0 {
			t.Errorf("P12.2: %v: %d states, %+v", rests, len(seen), all)
		}
		// Who had one holds the epoch at the next one at most, who finds one at the one behind that: so two epochs would not do, three do.
		if all.held[1] == 0 || all.held[2] > 0 || all.found[2] == 0 || all.found[3] > 0 || all.late[2] == 0 {
			t.Errorf("P12.2: %v: %d states, %+v", rests, len(seen), all)
		}
	}
}
