package mcas_test

import (
	"iter"
	"slices"
	"testing"

	"pawl/api"
	"pawl/arena"
	"pawl/mcas"
)

// life is a slot's descriptor in one of its lives.
type life struct {
	slot int
	gen  int
}

// answer is what a step tells.
type answer struct {
	over bool
	e    api.Errno
}

// shadow does what the chapter says in another way, upon an arena of its own: frames are calls within calls, and a step is what comes between two accesses.
type shadow struct {
	arena  *arena.Arena
	thread int
	seq    int
	frames int
	last   life
	won    bool
	over   bool
	begun  bool
	yield  func(answer) bool
	next   func() (answer, bool)
	stop   func()
}

// failure is what a shadow panics with at a word that is none, stopped is what it does when it is not asked any more.
type failure struct{}

type stopped struct{}

// newShadow is that of a helper; who has it must stop it.
func newShadow(a *arena.Arena, thread int, seq int, ref int) *shadow {
	s := &shadow{arena: a, thread: thread, seq: seq, last: life{-1, 0}}
	s.next, s.stop = iter.Pull(func(yield func(answer) bool) {
		s.yield = yield
		defer func() {
			switch x := recover(); x {
			case nil, stopped{}:
			case failure{}:
				yield(answer{true, api.ErrMcasForm})
			default:
				panic(x)
			}
		}()
		won := s.help(ref)
		s.won = won
		yield(answer{true, api.OK})
	})
	return s
}

// step is the next one.
func (s *shadow) step() answer {
	if s.over {
		return answer{true, api.OK}
	}
	got, _ := s.next()
	s.over = got.over
	return got
}

// wait ends the step ahead of an access through a descriptor.
func (s *shadow) wait(d life) {
	if s.begun && !s.yield(answer{false, api.OK}) {
		panic(stopped{})
	}
	s.begun, s.last = true, d
}

// help is a frame of a reference, and tells whether that was won.
func (s *shadow) help(ref int) bool {
	if s.frames == mostDepth {
		panic(failure{})
	}
	s.frames++
	defer func() { s.frames-- }()
	n := ref / 4
	if ref%4 == 2 {
		return s.helpMany(life{n % 16, n / 16})
	}
	n /= 4 * 1048576
	s.helpSingle(ref, life{n / 16 % 16, n / 256}, n%16)
	return false
}

func (s *shadow) helpSingle(ref int, d life, e int) {
	c := s.load(d, cellAt(d.slot, e), 15)
	w := s.load(d, wasAt(d.slot, e), mostValue)
	s.settle(d, c/4, ref, w)
}

// settle loads whether it is open, and turns a reference to an entry by that.
func (s *shadow) settle(d life, c int, ref int, w int) {
	if s.load(d, firstAt(d.slot), mostValue) == open(d.gen) {
		w = mine(d.slot, d.gen)
	}
	s.swap(d, c, ref, w)
}

func (s *shadow) helpMany(d life) bool {
	first := open(d.gen)
	for first == open(d.gen) {
		first = s.load(d, firstAt(d.slot), mostValue)
		if first == open(d.gen) {
			first = s.fill(d)
		}
	}
	isWon := first == won(d.gen)
	// A first frame knows from here on what comes of it, also if it fails.
	if s.frames == 1 {
		defer func() { s.won = isWon }()
	}
	for e := range s.load(d, countAt(d.slot), 16) / 4 {
		c := s.load(d, cellAt(d.slot, e), 15)
		at := wasAt(d.slot, e)
		if isWon {
			at = nowAt(d.slot, e)
		}
		x := s.load(d, at, mostValue)
		s.swap(d, c/4, mine(d.slot, d.gen), x)
	}
	return isWon
}

// fill puts the descriptor into its cells, and decides it; it tells the first word, if it found it decided by another helper, and else an open one.
func (s *shadow) fill(d life) int {
	for e := range s.load(d, countAt(d.slot), 16) / 4 {
		c := s.load(d, cellAt(d.slot, e), 15)
		w := s.load(d, wasAt(d.slot, e), mostValue)
		differs, first := s.own(d, e, c/4, w)
		if first != open(d.gen) {
			return first
		}
		if differs {
			s.swap(d, firstAt(d.slot), open(d.gen), lost(d.gen))
			return open(d.gen)
		}
	}
	s.swap(d, firstAt(d.slot), open(d.gen), won(d.gen))
	return open(d.gen)
}

// own gets the descriptor into one cell: whether another value was there; a first word that is not open, if it has lost time over another one.
func (s *shadow) own(d life, e int, c int, w int) (bool, int) {
	for {
		s.wait(d)
		p := entryOf(d.slot, d.gen, e, s.thread, s.seq)
		s.seq = (s.seq + 1) % (mostSeq + 1)
		there, _ := s.arena.Swap(c, w, p)
		switch {
		case there == w:
			s.settle(d, c, p, w)
			return false, open(d.gen)
		case there == mine(d.slot, d.gen):
			return false, open(d.gen)
		case there < 0:
			panic(failure{})
		case there%4 == 0 && there/4 <= mostValue:
			return true, open(d.gen)
		case there%4 == 1 && there>>28&15 < 12 && there>>32 <= mostGen:
			s.help(there)
		case there%4 == 2 && there>>2&15 < 12 && there>>6 <= mostGen:
			if first := s.load(d, firstAt(d.slot), mostValue); first != open(d.gen) {
				return false, first
			}
			s.help(there)
		default:
			panic(failure{})
		}
	}
}

// load is one of a value of at most that.
func (s *shadow) load(d life, at int, most int) int {
	s.wait(d)
	x, _ := s.arena.Load(at)
	if x < 0 || x%4 != 0 || x/4 > most {
		panic(failure{})
	}
	return x
}

func (s *shadow) swap(d life, at int, was int, now int) {
	s.wait(d)
	s.arena.Swap(at, was, now)
}

// pair is a helper and its shadow.
type pair struct {
	h *mcas.Help
	s *shadow
}

// stage is two arenas that must stay alike, one for helpers and one for their shadows.
type stage struct {
	t      *testing.T
	a      *arena.Arena
	shades *arena.Arena
	pairs  []pair
}

// newStage is upon a copy of an arena, and upon the arena itself.
func newStage(t *testing.T, a *arena.Arena) *stage {
	t.Helper()
	copied := *a
	return &stage{t: t, a: a, shades: &copied}
}

// add adds a helper of a reference.
func (g *stage) add(thread int, seq int, ref int) {
	g.t.Helper()
	p := pair{newHelp(g.t, thread, seq, ref), newShadow(g.shades, thread, seq, ref)}
	g.t.Cleanup(p.s.stop)
	g.pairs = append(g.pairs, p)
}

// step does a step of a helper and of its shadow, which must come to the same.
func (g *stage) step(i int) answer {
	g.t.Helper()
	p := g.pairs[i]
	if p.s.over {
		g.stepOver(p)
		return answer{true, api.OK}
	}
	over, e := p.h.Step(g.a)
	got := answer{over, e}
	want := p.s.step()
	touch, _ := g.a.Last()
	wantTouch, _ := g.shades.Last()
	if touch != wantTouch || got != want {
		g.t.Fatalf("P14.2: a step: %+v, %+v, want %+v, %+v", touch, got, wantTouch, want)
	}
	if !slices.Equal(g.a.All(), g.shades.All()) {
		g.t.Fatalf("P14.2: words behind %+v: %v, want %v", touch, g.a.All(), g.shades.All())
	}
	g.check(p)
	return got
}

// stepOver looks that a helper that is over does nothing.
func (g *stage) stepOver(p pair) {
	g.t.Helper()
	_, touched, over, e := step(g.t, p.h, g.a)
	put(g.t, g.shades, sideAt, -99)
	if touched || !over || e != api.OK || !slices.Equal(g.a.All(), g.shades.All()) {
		g.t.Fatalf("P14.2: a step of a helper that is over: access %v, %v, error %d", touched, over, e)
	}
	g.check(p)
}

// check looks what a helper tells of itself.
func (g *stage) check(p pair) {
	g.t.Helper()
	slot, gen := p.h.Through()
	if p.h.Seq() != p.s.seq || (life{slot, gen}) != p.s.last {
		g.t.Fatalf("P14.3: Seq %d, Through %d, %d, want %d, %+v", p.h.Seq(), slot, gen, p.s.seq, p.s.last)
	}
	if p.h.Won() != (p.s.over && p.s.won) {
		g.t.Fatalf("P14.2: Won: %v, want %v", p.h.Won(), p.s.won)
	}
}

// wild is an arena of words as they are drawn: descriptors of no writer, cells that hold what no helper put.
func wild(t *testing.T, r *draw, odd int) *arena.Arena {
	t.Helper()
	a := arena.New()
	for slot := range 12 {
		put(t, a, firstAt(slot), wildFirst(r, odd))
		put(t, a, countAt(slot), val(wildCount(r, odd)))
		for e := range 16 {
			put(t, a, cellAt(slot, e), val(wildCell(r, odd)))
			put(t, a, wasAt(slot, e), wildValue(r, odd))
			put(t, a, nowAt(slot, e), wildValue(r, odd))
		}
	}
	for cell := range 16 {
		put(t, a, cell, wildWord(r, odd))
	}
	return a
}

// isOdd tells whether a word is to be one that may not be: one of so many.
func isOdd(r *draw, odd int) bool {
	return odd > 0 && r.next(odd) == 0
}

func wildFirst(r *draw, odd int) int {
	if isOdd(r, odd) {
		return []int{-1, 3, open(1) + 12, mine(0, 1), val(mostValue), entryOf(0, 1, 0, 0, 0)}[r.next(6)]
	}
	gen := r.next(3) * r.next(2)
	return []int{open(gen), open(gen), open(gen), won(gen), lost(gen)}[r.next(5)]
}

func wildCount(r *draw, odd int) int {
	if isOdd(r, odd) {
		return 16 + r.next(3)
	}
	return r.next(5)
}

func wildCell(r *draw, odd int) int {
	if isOdd(r, 2*odd) {
		return 15 + r.next(3)
	}
	return r.next(5)
}

func wildValue(r *draw, odd int) int {
	if isOdd(r, 2*odd) {
		return []int{-4, 3, mine(1, 1), val(mostValue), val(mostValue + 1)}[r.next(5)]
	}
	return val(r.next(2))
}

func wildWord(r *draw, odd int) int {
	if isOdd(r, odd) {
		return noWords()[r.next(len(noWords()))]
	}
	if r.next(3) > 0 {
		return val(r.next(2))
	}
	return wildReference(r)
}

func wildReference(r *draw) int {
	if r.next(3) == 0 {
		return entryOf(r.next(4), r.next(3)*r.next(2), r.next(4), r.next(4), r.next(9))
	}
	return mine(r.next(4), r.next(3)*r.next(2))
}

// meddle puts another word somewhere, as if another thread had done so.
func (g *stage) meddle(r *draw, odd int) {
	g.t.Helper()
	slot, e := r.next(4), r.next(5)
	at, x := r.next(5), wildWord(r, odd)
	switch r.next(8) {
	case 0, 1:
		at, x = firstAt(slot), wildFirst(r, odd)
	case 2:
		at, x = countAt(slot), val(wildCount(r, odd))
	case 3:
		at, x = cellAt(slot, e), val(wildCell(r, odd))
	case 4:
		at, x = wasAt(slot, e), wildValue(r, odd)
	case 5:
		at, x = nowAt(slot, e), wildValue(r, odd)
	}
	put(g.t, g.a, at, x)
	put(g.t, g.shades, at, x)
}

// A helper alone, upon whatever words there are.
func TestWildArenasAlone(t *testing.T) {
	r := draw(1)
	var overs, fails, deepest int
	for n := range 6000 {
		odd := []int{0, 12, 40}[n%3]
		g := newStage(t, wild(t, &r, odd))
		g.add(r.next(4), r.next(mostSeq+1), wildReference(&r))
		for range 150 {
			got := g.step(0)
			if got.e != api.OK {
				fails++
			}
			if got.over {
				overs++
				break
			}
			deepest = max(deepest, g.pairs[0].s.frames)
		}
		g.pairs[0].s.stop()
	}
	if overs < 5000 || fails < 500 || deepest < mostDepth {
		t.Errorf("P14.2: only %d helpers over, %d failed, %d frames", overs, fails, deepest)
	}
}

// Several helpers, and words that change between their steps.
func TestWildArenasWoven(t *testing.T) {
	r := draw(2)
	var fails, goesOn int
	for n := range 1500 {
		odd := []int{0, 15}[n%2]
		g := newStage(t, wild(t, &r, odd))
		for thread := range 1 + r.next(4) {
			g.add(thread, mostSeq-r.next(30), wildReference(&r))
		}
		quiet := 5 + r.next(40)
		for range 200 {
			if r.next(quiet) == 0 {
				g.meddle(&r, odd)
			}
			got := g.step(r.next(len(g.pairs)))
			if got.e != api.OK {
				fails++
			}
			if !got.over {
				goesOn++
			}
		}
		for _, p := range g.pairs {
			p.s.stop()
		}
	}
	if goesOn < 30000 || fails < 300 {
		t.Errorf("P14.2: only %d steps that go on, %d that failed", goesOn, fails)
	}
}
