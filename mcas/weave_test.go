package mcas_test

import (
	"slices"
	"testing"

	"pawl/api"
	"pawl/arena"
	"pawl/mcas"
)

// descriptor is one that stands in an arena.
type descriptor struct {
	life
	ss []api.Swap
}

// worker helps a descriptor, or reads a cell, and helps each reference that it finds there until it finds a value.
type worker struct {
	thread int
	help   *mcas.Help
	// ref is what the helper helps.
	ref  int
	cell int
	// reads tells which of both it does, and over that it has done so.
	reads bool
	over  bool
}

// world is an arena of descriptors that their writers have written, with workers upon it.
type world struct {
	t       *testing.T
	arena   arena.Arena
	descs   []descriptor
	workers []worker
	tally   tally
}

// tally is how often what was seen.
type tally struct {
	won     int
	lost    int
	turned  int
	back    int
	singles int
	manys   int
	vain    int
	deepest int
}

func (y *tally) add(x tally) {
	y.won += x.won
	y.lost += x.lost
	y.turned += x.turned
	y.back += x.back
	y.singles += x.singles
	y.manys += x.manys
	y.vain += x.vain
	y.deepest = max(y.deepest, x.deepest)
}

// newWorld is one of these descriptors; the first cells hold these values, and all others 0.
func newWorld(t *testing.T, cells []int, descs ...descriptor) *world {
	t.Helper()
	w := &world{t: t, arena: *dirty(t), descs: descs}
	for cell := range 16 {
		put(t, &w.arena, cell, 0)
	}
	for cell, v := range cells {
		put(t, &w.arena, cell, val(v))
	}
	for _, d := range descs {
		lay(t, &w.arena, d.slot, open(d.gen), d.ss...)
	}
	return w
}

// helps adds a worker that helps a descriptor, by the thread that has that number; reads adds one that reads a cell.
func (w *world) helps(seq int, d descriptor) {
	w.t.Helper()
	thread := len(w.workers) % 4
	ref := mine(d.slot, d.gen)
	w.workers = append(w.workers, worker{thread: thread, help: newHelp(w.t, thread, seq, ref), ref: ref})
}

func (w *world) reads(seq int, cell int) {
	w.t.Helper()
	thread := len(w.workers) % 4
	// Its helper is made when there is something to help; until then this one keeps the number.
	w.workers = append(w.workers, worker{thread: thread, help: newHelp(w.t, thread, seq, mine(0, 0)), cell: cell, reads: true})
}

// fork is a world that is as this one is, with memory of its own, but for what was seen.
func (w *world) fork() *world {
	f := *w
	f.tally = tally{}
	f.workers = slices.Clone(w.workers)
	for i := range f.workers {
		f.workers[i].help = f.workers[i].help.Fork()
	}
	return &f
}

// key is all that a world's steps hang on, as a value.
type key struct {
	cells  [16]int
	firsts [12]int
	helps  [4]mcas.State
	refs   [4]int
	overs  [4]bool
}

func (w *world) key() key {
	var k key
	words := w.arena.All()
	copy(k.cells[:], words)
	for slot := range 12 {
		k.firsts[slot] = words[firstAt(slot)]
	}
	for i, one := range w.workers {
		k.helps[i], k.refs[i], k.overs[i] = one.help.State(), one.ref, one.over
	}
	return k
}

// step does a worker's next one, and looks that all is as it must be then.
func (w *world) step(i int) {
	w.t.Helper()
	one := &w.workers[i]
	if one.reads && one.ref == 0 {
		w.read(one)
		return
	}
	words, seq, depth := w.arena.All(), one.help.Seq(), one.help.Depth()
	over, e := one.help.Step(&w.arena)
	if e != api.OK {
		w.t.Fatalf("P14.2: a step: error %d", e)
	}
	touch, _ := w.arena.Last()
	w.checkAccess(one, touch, words, seq)
	w.checkStack(one, touch, depth)
	if !over {
		return
	}
	w.checkWon(one)
	if one.reads {
		one.ref = 0
	} else {
		one.over = true
	}
}

// read loads a worker's cell; a reference there is to be helped.
func (w *world) read(one *worker) {
	w.t.Helper()
	x, _ := w.arena.Load(one.cell)
	if x%4 == 0 {
		one.over = true
		return
	}
	one.ref, one.help = x, newHelp(w.t, one.thread, one.help.Seq(), x)
}

// checkAccess looks at an access: that it comes through the descriptor that is told, that references are put once only, and that decisions alone change what the cells stand for.
func (w *world) checkAccess(one *worker, touch api.Touch, words []int, seq int) {
	w.t.Helper()
	slot, gen := one.help.Through()
	d := w.find(life{slot, gen})
	decides := touch.Kind == 2 && touch.At == firstAt(slot) && touch.Was != touch.Now
	if touch.At >= 16 && (touch.At < firstAt(slot) || touch.At > nowAt(slot, len(d.ss))-3) {
		w.t.Fatalf("P14.3: an access through slot %d: %+v", slot, touch)
	}
	if touch.At < 16 && touch.Now != touch.Was {
		w.checkTurn(one, d, touch, seq)
	}
	if touch.At >= 16 && touch.Now != touch.Was && !decides {
		w.t.Fatalf("P14.2: an access that changes a descriptor: %+v", touch)
	}
	before, after := w.standsFor(words), w.standsFor(w.arena.All())
	if decides {
		w.checkDecision(d, touch, words, &before)
	}
	if before != after {
		w.t.Fatalf("P14.4: %+v: the cells stand for %v, want %v", touch, after, before)
	}
}

// checkTurn looks at a swap of a cell that changes it.
func (w *world) checkTurn(one *worker, d descriptor, touch api.Touch, seq int) {
	w.t.Helper()
	switch {
	case touch.Now%4 == 1:
		e := slices.IndexFunc(d.ss, func(s api.Swap) bool { return s.Cell == touch.At })
		if touch.Now != entryOf(d.slot, d.gen, e, one.thread, seq) || touch.Was != val(d.ss[e].Was) {
			w.t.Fatalf("P14.4: a reference to an entry: %+v, with the number %d", touch, seq)
		}
	case touch.Was%4 == 1 && touch.Now%4 == 2:
		w.tally.turned++
	case touch.Was%4 == 1:
		w.tally.back++
	case touch.Was != mine(d.slot, d.gen) || touch.Now%4 != 0:
		w.t.Fatalf("P14.2: a cell turns: %+v", touch)
	}
}

// checkDecision looks at a swap that decides: a descriptor is won just if all its cells hold it, each with what was beneath; then they stand for what is to be.
func (w *world) checkDecision(d descriptor, touch api.Touch, words []int, before *[16]int) {
	w.t.Helper()
	switch {
	case touch.Was != open(d.gen) || touch.Now != won(d.gen) && touch.Now != lost(d.gen):
		w.t.Fatalf("P14.4: a decision: %+v", touch)
	case touch.Now == lost(d.gen):
		w.tally.lost++
		return
	}
	w.tally.won++
	for _, s := range d.ss {
		if words[s.Cell] != mine(d.slot, d.gen) || before[s.Cell] != val(s.Was) {
			w.t.Fatalf("P14.4: won by %+v, with cell %d: %d, which stands for %d", touch, s.Cell, words[s.Cell], before[s.Cell])
		}
		before[s.Cell] = val(s.Now)
	}
}

// checkStack looks at a frame that has come atop: it comes from one that is open, whose cell is beyond that of the one beneath, or from one that found a reference to an entry.
func (w *world) checkStack(one *worker, touch api.Touch, depth int) {
	w.t.Helper()
	cells := one.help.Waiting()
	for i := 1; i < len(cells); i++ {
		if cells[i] <= cells[i-1] {
			w.t.Fatalf("P14.4: the frames wait at %v", cells)
		}
	}
	w.tally.deepest = max(w.tally.deepest, one.help.Depth())
	_, gen := one.help.Through()
	switch {
	case one.help.Depth() <= depth:
		if touch.Kind == 2 && touch.Was == touch.Now {
			w.tally.vain++
		}
	case touch.Kind == 0 && touch.Was == open(gen):
		w.tally.manys++
	case touch.Kind == 2 && touch.Was%4 == 1:
		w.tally.singles++
	default:
		w.t.Fatalf("P14.4: a frame comes atop with %+v", touch)
	}
}

// checkWon looks what a helper that is over tells of what it helped: all tell the same.
func (w *world) checkWon(one *worker) {
	w.t.Helper()
	n := one.ref / 4
	if one.ref%4 == 1 {
		if one.help.Won() {
			w.t.Fatalf("P14.2: a helper of a reference to an entry has won")
		}
		return
	}
	first := w.arena.All()[firstAt(n%16)]
	if first == open(n/16) || one.help.Won() != (first == won(n/16)) {
		w.t.Fatalf("P14.4: a helper of slot %d is over: %v, with the first word %d", n%16, one.help.Won(), first)
	}
}

// find is the descriptor of a life; there must be one.
func (w *world) find(l life) descriptor {
	w.t.Helper()
	for _, d := range w.descs {
		if d.life == l {
			return d
		}
	}
	w.t.Fatalf("P14.3: a reference to slot %d in its life %d", l.slot, l.gen)
	return descriptor{}
}

// standsFor tells which values the cells stand for: beneath a reference to an entry is what was, and beneath one to a descriptor, too, unless it is won.
func (w *world) standsFor(words []int) [16]int {
	w.t.Helper()
	var vs [16]int
	for cell := range vs {
		x := words[cell]
		vs[cell] = x
		if x%4 == 0 {
			continue
		}
		n := x / 4
		if x%4 == 1 {
			n /= 64 * 1048576
		}
		d := w.find(life{n % 16, n / 16})
		e := slices.IndexFunc(d.ss, func(s api.Swap) bool { return s.Cell == cell })
		vs[cell] = val(d.ss[e].Was)
		if x%4 == 2 && words[firstAt(d.slot)] == won(d.gen) {
			vs[cell] = val(d.ss[e].Now)
		}
	}
	return vs
}

// going are the workers that are not over.
func (w *world) going() []int {
	var is []int
	for i, one := range w.workers {
		if !one.over {
			is = append(is, i)
		}
	}
	return is
}

// checkEnd looks, with all workers over, that no reference is left.
func (w *world) checkEnd() {
	w.t.Helper()
	for cell, x := range w.arena.All()[:16] {
		if x%4 != 0 {
			w.t.Fatalf("P14.4: with all over cell %d holds %d", cell, x)
		}
	}
}

// explore tries every way in which the workers may take turns, each state once, and tells all that was seen.
func (w *world) explore(seen map[key]bool, all *tally) {
	k := w.key()
	if seen[k] {
		return
	}
	seen[k] = true
	is := w.going()
	if len(is) == 0 {
		w.checkEnd()
	}
	for _, i := range is {
		f := w.fork()
		f.step(i)
		all.add(f.tally)
		f.explore(seen, all)
	}
}

// descOf is a descriptor of these entries.
func descOf(slot int, gen int, ss ...api.Swap) descriptor {
	return descriptor{life{slot, gen}, ss}
}

// plan is what is tried in every way.
type plan struct {
	name  string
	cells []int
	descs []descriptor
	// helps are the descriptors that are helped, each by a worker; reads are the cells that are read.
	helps []int
	reads []int
	// least is what must be seen at least; its numbers are 0 or 1.
	least tally
}

func plans() []plan {
	none := descOf(3, 7)
	single := descOf(3, 7, api.Swap{Cell: 0, Was: 5, Now: 6})
	double := descOf(3, 7, api.Swap{Cell: 0, Was: 5, Now: 6}, api.Swap{Cell: 1, Was: 7, Now: 8})
	rivalOfOne := descOf(4, 0, api.Swap{Cell: 0, Was: 5, Now: 16})
	rival := descOf(4, 0, api.Swap{Cell: 0, Was: 5, Now: 16}, api.Swap{Cell: 1, Was: 7, Now: 18})
	heir := descOf(4, 0, api.Swap{Cell: 0, Was: 6, Now: 5})
	beside := descOf(5, 1, api.Swap{Cell: 1, Was: 7, Now: 7}, api.Swap{Cell: 2, Was: 0, Now: 1})
	stays := descOf(3, 7, api.Swap{Cell: 0, Was: 5, Now: 5})
	return []plan{
		{"none, by two", nil, []descriptor{none}, []int{0, 0}, nil, tally{won: 1, vain: 1}},
		{"none, by four", nil, []descriptor{none}, []int{0, 0, 0, 0}, nil, tally{won: 1, vain: 1}},
		{"one, by two", []int{5}, []descriptor{single}, []int{0, 0}, nil, tally{won: 1, turned: 1, singles: 1, vain: 1}},
		{"one, by three", []int{5}, []descriptor{single}, []int{0, 0, 0}, nil, tally{won: 1, turned: 1, singles: 1, vain: 1}},
		{"one that stays, by two", []int{5}, []descriptor{stays}, []int{0, 0}, nil, tally{won: 1, turned: 1, back: 1, singles: 1, vain: 1}},
		{"one that stays, by three", []int{5}, []descriptor{stays}, []int{0, 0, 0}, nil, tally{won: 1, turned: 1, back: 1, singles: 1, vain: 1}},
		{"one that differs, by two", []int{4}, []descriptor{single}, []int{0, 0}, nil, tally{lost: 1, vain: 1}},
		{"one that differs, by three", []int{4}, []descriptor{single}, []int{0, 0, 0}, nil, tally{lost: 1, vain: 1}},
		{"two, by two", []int{5, 7}, []descriptor{double}, []int{0, 0}, nil, tally{won: 1, turned: 1, singles: 1, vain: 1}},
		{"two, the second differs, by two", []int{5, 8}, []descriptor{double}, []int{0, 0}, nil, tally{lost: 1, turned: 1, back: 1, singles: 1, vain: 1}},
		{"two, the first differs, by two", []int{6, 7}, []descriptor{double}, []int{0, 0}, nil, tally{lost: 1, vain: 1}},
		{"rivals", []int{5, 7}, []descriptor{double, rival}, []int{0, 1}, nil, tally{won: 1, lost: 1, turned: 1, singles: 1, manys: 1, vain: 1}},
		{"rivals over one cell, one by two", []int{5}, []descriptor{single, rivalOfOne}, []int{0, 1, 0}, nil, tally{won: 1, lost: 1, turned: 1, singles: 1, manys: 1, vain: 1}},
		{"one and its heir", []int{5}, []descriptor{single, heir}, []int{0, 1}, nil, tally{won: 1, lost: 1, turned: 1, singles: 1, manys: 1, vain: 1}},
		{"one and its heir, by three", []int{5}, []descriptor{single, heir}, []int{0, 1, 1}, nil, tally{won: 1, lost: 1, turned: 1, singles: 1, manys: 1, vain: 1}},
		{"side by side", []int{5, 7}, []descriptor{double, beside}, []int{0, 1}, nil, tally{won: 1, turned: 1, singles: 1, manys: 1, vain: 1}},
		{"two and an heir of the first", []int{5, 7}, []descriptor{double, heir}, []int{0, 1}, nil, tally{won: 1, lost: 1, turned: 1, singles: 1, manys: 1, vain: 1}},
		{"one, and readers", []int{5}, []descriptor{single}, []int{0}, []int{0, 0}, tally{won: 1, turned: 1, vain: 1}},
		{"two, the second differs, and a reader", []int{5, 8}, []descriptor{double}, []int{0}, []int{0}, tally{lost: 1, turned: 1, vain: 1}},
		{"rivals over one cell, and a reader", []int{5}, []descriptor{single, rivalOfOne}, []int{0, 1}, []int{0}, tally{won: 1, lost: 1, turned: 1, vain: 1}},
	}
}

// atLeast tells whether all was seen that must be.
func (y tally) atLeast(least tally) bool {
	return y.won >= least.won && y.lost >= least.lost && y.turned >= least.turned && y.back >= least.back &&
		y.singles >= least.singles && y.manys >= least.manys && y.vain >= least.vain && y.deepest >= least.deepest
}

func TestHelpersThatAreWovenInEveryWay(t *testing.T) {
	for _, p := range plans() {
		w := newWorld(t, p.cells, p.descs...)
		for _, d := range p.helps {
			w.helps(mostSeq-1, p.descs[d])
		}
		for _, cell := range p.reads {
			w.reads(mostSeq-1, cell)
		}
		var all tally
		seen := map[key]bool{}
		w.explore(seen, &all)
		if !all.atLeast(p.least) {
			t.Errorf("P14.4: %s: %d states, %+v, want %+v", p.name, len(seen), all, p.least)
		}
	}
}

// round gives a world new descriptors, in the next life of their slots; most expect what the cells hold, or what another one leaves there.
func (w *world) round(r *draw, gen int) {
	w.t.Helper()
	words := w.arena.All()
	var vs [16]int
	for cell := range vs {
		vs[cell] = words[cell] / 4
	}
	w.descs = nil
	many := 1 + r.next(12)
	among := 1 + r.next(6)
	for slot := range many {
		d := descOf(slot, gen)
		for _, cell := range drawnCells(r, slot, among) {
			s := api.Swap{Cell: cell, Was: vs[cell], Now: r.next(4)}
			if r.next(40) == 0 {
				s.Was = r.next(4)
			}
			if r.next(many) == 0 {
				vs[cell] = s.Now
			}
			d.ss = append(d.ss, s)
		}
		w.descs = append(w.descs, d)
		lay(w.t, &w.arena, slot, open(gen), d.ss...)
	}
}

// drawnCells are those of a descriptor: two that it shares with those of the next slots, or some among all.
func drawnCells(r *draw, slot int, among int) []int {
	if among == 1 {
		return []int{slot, slot + 1}
	}
	var cells []int
	for cell := range 16 {
		if r.next(6) < among {
			cells = append(cells, cell)
		}
	}
	return cells
}

// ask gives a worker something new to do: a descriptor to help, or a cell to read.
func (w *world) ask(r *draw, i int) {
	w.t.Helper()
	one := &w.workers[i]
	one.over = false
	if r.next(4) == 0 {
		one.reads, one.cell, one.ref = true, r.next(16), 0
		return
	}
	d := w.descs[r.next(len(w.descs))]
	one.reads, one.ref = false, mine(d.slot, d.gen)
	one.help = newHelp(w.t, one.thread, one.help.Seq(), one.ref)
}

// play lets workers take turns as it is drawn, each with so many tasks, until all are over; run is how many steps one does in a row.
func (w *world) play(r *draw, tasks int, run int) {
	w.t.Helper()
	left := make([]int, len(w.workers))
	for i := range left {
		left[i] = tasks - 1
		w.ask(r, i)
	}
	for range 400000 {
		is := w.going()
		if len(is) == 0 {
			w.checkEnd()
			return
		}
		i := is[r.next(len(is))]
		for n := 0; n < run && !w.workers[i].over; n++ {
			w.step(i)
		}
		if w.workers[i].over && left[i] > 0 {
			left[i]--
			w.ask(r, i)
		}
	}
	w.t.Fatalf("P14.4: workers that come to no end")
}

func TestHelpersThatAreWovenAsDrawn(t *testing.T) {
	var all tally
	for seed := range 60 {
		r := draw(seed)
		w := newWorld(t, nil)
		for i := range 2 + seed%7 {
			// Workers of one thread have numbers far from one another's; some go round.
			w.reads((mostSeq-50+i/4*100000)%(mostSeq+1), 0)
		}
		for gen := range 12 {
			w.round(&r, []int{gen, mostGen - 20 + gen}[seed%2])
			w.play(&r, 1+r.next(4), 1+r.next(4)*r.next(20))
		}
		all.add(w.tally)
	}
	least := tally{won: 100, lost: 100, turned: 1000, back: 30, singles: 100, manys: 100, vain: 1000, deepest: 5}
	if !all.atLeast(least) {
		t.Errorf("P14.4: %+v, want %+v", all, least)
	}
}

// stairs is a world of twelve descriptors, each of which shares its second cell with the next one, and finds there what that one leaves; each is helped by one worker.
func stairs(t *testing.T) *world {
	t.Helper()
	var descs []descriptor
	for slot := range 12 {
		descs = append(descs, descOf(slot, 3*slot, api.Swap{Cell: slot, Was: 0, Now: slot + 1}, api.Swap{Cell: slot + 1, Was: slot + 2, Now: 99}))
	}
	w := newWorld(t, []int{12: 13}, descs...)
	for i, d := range descs {
		w.helps(mostSeq-10-i/4*1000, d)
	}
	return w
}

// goOn lets a worker do its next steps, as many as it has up to that.
func (w *world) goOn(i int, steps int) {
	w.t.Helper()
	for range steps {
		if w.workers[i].over {
			return
		}
		w.step(i)
	}
}

// With all of them in their first cell the first worker has to help them all, and so each is won.
func TestHelpersThatStandInOneAnothersWay(t *testing.T) {
	for _, steps := range []int{5, 6, 7, 8, 9} {
		w := stairs(t)
		for i := range 12 {
			w.goOn(i, steps)
		}
		w.goOn(0, 100000)
		if w.tally.won != 12 || w.tally.lost != 0 || w.tally.deepest < 12 || !w.workers[0].help.Won() {
			t.Errorf("P14.4: behind %d steps of each: %+v", steps, w.tally)
		}
		for i := range 12 {
			w.goOn(i, 100000)
		}
		w.checkEnd()
		if len(w.going()) > 0 || w.tally.won != 12 {
			t.Errorf("P14.4: behind %d steps of each: %v go on, %+v", steps, w.going(), w.tally)
		}
	}
}

func TestHelpersThatStopAnywhereOnTheStairs(t *testing.T) {
	var all tally
	for seed := range 200 {
		r := draw(seed)
		w := stairs(t)
		for range 24 {
			w.goOn(r.next(12), 1+r.next(12))
		}
		first := r.next(12)
		for i := range 12 {
			w.goOn((first+5*i)%12, 100000)
		}
		w.checkEnd()
		if len(w.going()) > 0 {
			t.Fatalf("P14.4: seed %d: %v go on", seed, w.going())
		}
		all.add(w.tally)
	}
	if least := (tally{won: 200, lost: 200, singles: 100, manys: 500, deepest: 6}); !all.atLeast(least) {
		t.Errorf("P14.4: %+v, want %+v", all, least)
	}
}
