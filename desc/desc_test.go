package desc_test

import (
	"slices"
	"sync"
	"testing"

	"pawl/api"
	"pawl/arena"
	"pawl/desc"
	"pawl/word"
)

const (
	leastInt  = -1 << 63
	mostInt   = 1<<63 - 1
	mostValue = 1099511627775
	mostGen   = 65535
	// sideAt is a place that no writer touches.
	sideAt = 15
)

// draw is a row of drawn numbers.
type draw uint64

func (r *draw) next(n int) int {
	*r = *r*6364136223846793005 + 1442695040888963407
	return int(uint64(*r) >> 33 % uint64(n))
}

// put stores x at a place.
func put(t *testing.T, a *arena.Arena, at int, x int) {
	t.Helper()
	if _, e := a.Store(at, x); e != api.OK {
		t.Fatalf("P2.1: Store at %d: error %d", at, e)
	}
}

// number is the number of a word that may be.
func number(t *testing.T, w api.Word) int {
	t.Helper()
	x, e := word.Put(w)
	if e != api.OK {
		t.Fatalf("P1.1: Put(%+v): error %d", w, e)
	}
	return x
}

// firstAt is the place of a slot's first word, worked out by hand.
func firstAt(slot int) int {
	return []int{34, 84, 134, 184, 234, 284, 334, 384, 434, 484, 534, 584}[slot]
}

// wordsOf are a descriptor's, worked out by hand, in the row of their places.
func wordsOf(gen int, decision int, ss []api.Swap) []int {
	xs := []int{4 * (4*gen + decision), 4 * len(ss)}
	for _, s := range ss {
		xs = append(xs, 4*s.Cell, 4*s.Was, 4*s.Now)
	}
	return xs
}

// dirty is an arena with a number at each place that is no word.
func dirty(t *testing.T) *arena.Arena {
	t.Helper()
	a := arena.New()
	for at := range 634 {
		put(t, a, at, -7-4*at)
	}
	return a
}

// laid is an arena in which these words stand at a slot's descriptor, all else being no words.
func laid(t *testing.T, slot int, xs ...int) *arena.Arena {
	t.Helper()
	a := dirty(t)
	for i, x := range xs {
		put(t, a, firstAt(slot)+i, x)
	}
	return a
}

// someEntries are rows that may be: none, one, some, and as many as may be.
func someEntries() [][]api.Swap {
	return [][]api.Swap{
		nil,
		{},
		{{Cell: 0, Was: 0, Now: 0}},
		{{Cell: 0, Was: 5, Now: 6}},
		{{Cell: 15, Was: mostValue, Now: mostValue}},
		{{Cell: 7, Was: mostValue, Now: 0}},
		{{Cell: 3, Was: 0, Now: mostValue}, {Cell: 4, Was: 1, Now: 1}},
		{{Cell: 0, Was: 9, Now: 8}, {Cell: 15, Was: 7, Now: 6}},
		{{Cell: 1, Was: 11, Now: 21}, {Cell: 6, Was: 12, Now: 22}, {Cell: 14, Was: 13, Now: 23}},
		full()[1:],
		full()[:15],
		full(),
	}
}

// full are entries of all cells.
func full() []api.Swap {
	ss := make([]api.Swap, 16)
	for cell := range ss {
		ss[cell] = api.Swap{Cell: cell, Was: 1000 + cell, Now: 2000 - cell}
	}
	return ss
}

// drawn are entries of cells that are drawn.
func drawn(r *draw) []api.Swap {
	var ss []api.Swap
	for cell := range 16 {
		if r.next(3) > 0 {
			ss = append(ss, api.Swap{Cell: cell, Was: r.next(1 << 20), Now: mostValue - r.next(1<<20)})
		}
	}
	return ss
}

// noSlots are numbers of no slot, noGens such of no life.
func noSlots() []int {
	return []int{-1, 12, -2, 13, -12, 15, 16, 255, 256, 1<<32 - 1, 1 << 32, 1<<32 + 5, -1 << 32, 1 << 62, 1<<62 + 3, mostInt, mostInt - 1, leastInt, leastInt + 1, leastInt + 7}
}

func noGens() []int {
	return []int{-1, mostGen + 1, -2, -4, mostGen + 2, 1 << 17, 1 << 31, 1<<32 - 1, 1 << 32, 1<<32 + 5, -1 << 32, -mostGen, 1 << 60, 1 << 62, 1<<62 + 5, mostInt, mostInt - 1, leastInt, leastInt + 1}
}

// noValues are numbers that are none's, noCells such of no cell.
func noValues() []int {
	return []int{-1, mostValue + 1, -2, -4, mostValue + 2, 1 << 41, 1 << 60, 1 << 61, 1 << 62, 1<<62 + 1, -1 << 32, -mostValue, mostInt, mostInt - 1, leastInt, leastInt + 1}
}

func noCells() []int {
	return []int{-1, 16, -2, -16, 17, 20, 255, 256, 1<<32 - 1, 1 << 32, 1<<32 + 3, -1 << 32, 1 << 60, 1 << 62, 1<<62 + 3, mostInt, mostInt - 1, leastInt, leastInt + 1}
}

// wrongOnes are entries with one field wrong, of that cell.
func wrongOnes(cell int) []api.Swap {
	var ss []api.Swap
	for _, x := range noCells() {
		ss = append(ss, api.Swap{Cell: x, Was: 3, Now: 4})
	}
	for _, x := range noValues() {
		ss = append(ss, api.Swap{Cell: cell, Was: x, Now: 4}, api.Swap{Cell: cell, Was: 3, Now: x}, api.Swap{Cell: cell, Was: x, Now: x})
	}
	return ss
}

// wrongRows are entries that may not be, each wrong in one way.
func wrongRows() [][]api.Swap {
	rows := [][]api.Swap{
		{{Cell: 0}, {Cell: 0}},
		{{Cell: 15}, {Cell: 15}},
		{{Cell: 1}, {Cell: 0}},
		{{Cell: 15}, {Cell: 14}},
		{{Cell: 15}, {Cell: 0}},
		{{Cell: 7, Was: 1, Now: 2}, {Cell: 7, Was: 2, Now: 3}},
		{{Cell: 2}, {Cell: 9}, {Cell: 3}},
		{{Cell: 9}, {Cell: 2}, {Cell: 3}},
		{{Cell: 2}, {Cell: 3}, {Cell: 2}},
		append(full(), api.Swap{Cell: 15}),
		append(full(), api.Swap{Cell: 16}),
		append([]api.Swap{{Cell: -1}}, full()...),
		append([]api.Swap{{Cell: 0}}, full()...),
		append(full(), full()...),
		slices.Repeat([]api.Swap{{Cell: 4}}, 17),
		make([]api.Swap, 70000),
	}
	for _, i := range []int{0, 1, 8, 14, 15} {
		for _, s := range wrongOnes(i) {
			ss := full()
			ss[i] = s
			rows = append(rows, ss)
		}
	}
	for i := range 15 {
		swapped, doubled := full(), full()
		swapped[i], swapped[i+1] = swapped[i+1], swapped[i]
		doubled[i+1].Cell = i
		rows = append(rows, swapped, doubled)
	}
	for _, s := range wrongOnes(6) {
		rows = append(rows, []api.Swap{s}, []api.Swap{{Cell: 2}, s}, []api.Swap{s, {Cell: 9}})
	}
	return rows
}

// newWriter is one of what may be.
func newWriter(t *testing.T, slot int, gen int, ss ...api.Swap) *desc.Writer {
	t.Helper()
	w, e := desc.NewWriter(slot, gen, ss...)
	if w == nil || e != api.OK {
		t.Fatalf("P13.2: NewWriter(%d, %d, %v): %v, error %d", slot, gen, ss, w, e)
	}
	return w
}

// checkNoWriter looks that NewWriter refuses.
func checkNoWriter(t *testing.T, slot int, gen int, ss ...api.Swap) {
	t.Helper()
	if w, e := desc.NewWriter(slot, gen, ss...); w != nil || e != api.ErrDescForm {
		t.Errorf("P13.2: NewWriter(%d, %d, %d entries from %v on): %v, error %d", slot, gen, len(ss), ss[:min(len(ss), 3)], w, e)
	}
}

// step does one step ahead of which a mark is set, so that a step without an access shows; it tells the access, and whether there was one.
func step(t *testing.T, w *desc.Writer, a *arena.Arena) (api.Touch, bool, bool, api.Errno) {
	t.Helper()
	put(t, a, sideAt, -99)
	mark, _ := a.Last()
	over, e := w.Step(a)
	got, _ := a.Last()
	return got, got != mark, over, e
}

// checkStore looks that a step stores just that word at that place, and changes nothing else.
func checkStore(t *testing.T, w *desc.Writer, a *arena.Arena, at int, x int, wantOver bool) {
	t.Helper()
	words := a.All()
	want := api.Touch{Kind: 1, At: at, Was: words[at], Now: x}
	words[sideAt], words[at] = -99, x
	got, touched, over, e := step(t, w, a)
	if got != want || !touched {
		t.Fatalf("P13.2: a step's access: %+v, want %+v", got, want)
	}
	if over != wantOver || e != api.OK {
		t.Fatalf("P13.2: a step with %+v: %v, error %d, want %v", want, over, e, wantOver)
	}
	if !slices.Equal(a.All(), words) {
		t.Fatalf("P13.2: words behind %+v: %v, want %v", want, a.All(), words)
	}
}

// checkWrites looks that a writer that begins stores just these words, from that place on, and is over with the last one, for good.
func checkWrites(t *testing.T, w *desc.Writer, a *arena.Arena, at int, xs []int) {
	t.Helper()
	for i, x := range xs {
		checkStore(t, w, a, at+i, x, i == len(xs)-1)
	}
	checkOver(t, w, a)
}

// checkOver looks that a writer does nothing more, whatever the arena.
func checkOver(t *testing.T, w *desc.Writer, a *arena.Arena) {
	t.Helper()
	for _, b := range []*arena.Arena{a, arena.New(), dirty(t), a, a} {
		words := b.All()
		words[sideAt] = -99
		got, touched, over, e := step(t, w, b)
		if touched || !slices.Equal(b.All(), words) {
			t.Fatalf("P13.2: an access of a writer that is over: %+v", got)
		}
		if !over || e != api.OK {
			t.Fatalf("P13.2: a step of a writer that is over: %v, error %d", over, e)
		}
	}
}

// write does all of a writer.
func write(t *testing.T, a *arena.Arena, slot int, gen int, ss ...api.Swap) {
	t.Helper()
	finish(t, newWriter(t, slot, gen, ss...), a)
}

// finish does a writer's steps until it is over; none has more than 50.
func finish(t *testing.T, w *desc.Writer, a *arena.Arena) {
	t.Helper()
	for range 50 {
		over, e := w.Step(a)
		if e != api.OK {
			t.Fatalf("P13.2: a step: error %d", e)
		}
		if over {
			return
		}
	}
	t.Fatalf("P13.2: a writer is not over after 50 steps")
}

func TestWriterOfNoEntry(t *testing.T) {
	for _, a := range []*arena.Arena{arena.New(), dirty(t)} {
		w := newWriter(t, 0, 0)
		checkStore(t, w, a, 34, 0, false)
		checkStore(t, w, a, 35, 0, true)
		checkOver(t, w, a)
		w = newWriter(t, 11, mostGen)
		checkStore(t, w, a, 584, 1048560, false)
		checkStore(t, w, a, 585, 0, true)
		checkOver(t, w, a)
	}
}

func TestWriterOfOneEntry(t *testing.T) {
	a := arena.New()
	w := newWriter(t, 1, 3, api.Swap{Cell: 5, Was: 7, Now: mostValue})
	checkStore(t, w, a, 84, 48, false)
	checkStore(t, w, a, 85, 4, false)
	checkStore(t, w, a, 86, 20, false)
	checkStore(t, w, a, 87, 28, false)
	checkStore(t, w, a, 88, 4398046511100, true)
	checkOver(t, w, a)
}

func TestWriterOfAllEntries(t *testing.T) {
	a := dirty(t)
	w := newWriter(t, 11, 1, full()...)
	checkStore(t, w, a, 584, 16, false)
	checkStore(t, w, a, 585, 64, false)
	for cell := range 16 {
		checkStore(t, w, a, 586+3*cell, 4*cell, false)
		checkStore(t, w, a, 587+3*cell, 4*(1000+cell), false)
		checkStore(t, w, a, 588+3*cell, 4*(2000-cell), cell == 15)
	}
	checkOver(t, w, a)
}

func TestWriterOfEachSlot(t *testing.T) {
	for slot := range 12 {
		for _, gen := range []int{0, 1, 2, 3, 4, 5, 255, 256, 4095, 1 << 14, mostGen - 1, mostGen} {
			for _, ss := range someEntries() {
				checkWrites(t, newWriter(t, slot, gen, ss...), dirty(t), firstAt(slot), wordsOf(gen, 0, ss))
			}
		}
	}
}

func TestWriterOfDrawnEntries(t *testing.T) {
	r := draw(5)
	for range 500 {
		slot, gen, ss := r.next(12), r.next(mostGen+1), drawn(&r)
		checkWrites(t, newWriter(t, slot, gen, ss...), dirty(t), firstAt(slot), wordsOf(gen, 0, ss))
	}
}

// Each step stores into the arena that it is handed.
func TestWriterInSeveralArenas(t *testing.T) {
	for _, ss := range someEntries() {
		arenas := []*arena.Arena{arena.New(), dirty(t), laid(t, 4, wordsOf(9, 1, full())...)}
		w := newWriter(t, 4, 6, ss...)
		xs := wordsOf(6, 0, ss)
		for i, x := range xs {
			checkStore(t, w, arenas[i%3], 234+i, x, i == len(xs)-1)
		}
		checkOver(t, w, arenas[0])
	}
}

func TestWritersOfNoSlot(t *testing.T) {
	for _, slot := range noSlots() {
		checkNoWriter(t, slot, 0)
		checkNoWriter(t, slot, mostGen, full()...)
		checkNoWriter(t, slot, -1)
		checkNoWriter(t, slot, 5, api.Swap{Cell: 16})
	}
}

func TestWritersOfNoLife(t *testing.T) {
	for _, gen := range noGens() {
		checkNoWriter(t, 0, gen)
		checkNoWriter(t, 11, gen, full()...)
		checkNoWriter(t, 12, gen)
		checkNoWriter(t, 5, gen, api.Swap{Cell: 16})
	}
}

func TestWritersOfWrongEntries(t *testing.T) {
	for _, ss := range wrongRows() {
		checkNoWriter(t, 0, 0, ss...)
		checkNoWriter(t, 11, mostGen, ss...)
	}
}

// Any two cells, and any three: they may be if they rise.
func TestCellsRise(t *testing.T) {
	for one := range 16 {
		for two := range 16 {
			checkCells(t, one < two, one, two)
			for three := range 16 {
				checkCells(t, one < two && two < three, one, two, three)
			}
		}
	}
}

// checkCells looks whether entries of these cells may be.
func checkCells(t *testing.T, may bool, cells ...int) {
	t.Helper()
	var ss []api.Swap
	for _, cell := range cells {
		ss = append(ss, api.Swap{Cell: cell, Was: 1, Now: 2})
	}
	if may {
		checkWrites(t, newWriter(t, 2, 1, ss...), arena.New(), 134, wordsOf(1, 0, ss))
	} else {
		checkNoWriter(t, 2, 1, ss...)
	}
	checkGet(t, laid(t, 2, wordsOf(1, 0, ss)...), 2, 1, 0, ss, may)
}

// checkNilArena looks that a step without an arena is refused.
func checkNilArena(t *testing.T, w *desc.Writer) {
	t.Helper()
	for range 2 {
		if over, e := w.Step(nil); over || e != api.ErrNil {
			t.Fatalf("R3: a step without an arena: %v, error %d", over, e)
		}
	}
}

func TestStepsWithoutAnArena(t *testing.T) {
	for _, ss := range someEntries() {
		a := dirty(t)
		w := newWriter(t, 3, 8, ss...)
		xs := wordsOf(8, 0, ss)
		checkNilArena(t, w)
		for i, x := range xs {
			checkStore(t, w, a, 184+i, x, i == len(xs)-1)
			checkNilArena(t, w)
		}
		checkOver(t, w, a)
		checkNilArena(t, w)
		checkOver(t, w, a)
	}
}

func TestNilWriter(t *testing.T) {
	var w *desc.Writer
	a := arena.New()
	for _, b := range []*arena.Arena{a, nil} {
		if over, e := w.Step(b); over || e != api.ErrNil {
			t.Errorf("R3: a step of nil: %v, error %d", over, e)
		}
	}
	if touch, is := a.Last(); is {
		t.Errorf("R3: an access of a nil writer: %+v", touch)
	}
}

// A writer that nobody made has nothing to write, and doesn't panic.
func TestWriterThatIsZero(t *testing.T) {
	a := arena.New()
	for range 3 {
		if _, e := new(desc.Writer).Step(a); e != api.OK {
			t.Errorf("R1: a step of a writer that is zero: error %d", e)
		}
	}
	if touch, is := a.Last(); is {
		t.Errorf("P13.2: an access of a writer that is zero: %+v", touch)
	}
}

// Entries stay as they are, their spare room, too, and a writer keeps none of them.
func TestWriterKeepsNoEntries(t *testing.T) {
	for _, ss := range someEntries() {
		all := append(slices.Clone(ss), api.Swap{Cell: -5, Was: -6, Now: -7}, api.Swap{Cell: 9, Was: 1, Now: 1}, api.Swap{Cell: -8})
		before, in := slices.Clone(all), all[:len(ss)]
		w, again := newWriter(t, 6, 2, in...), newWriter(t, 6, 2, in...)
		checkWrites(t, w, dirty(t), 334, wordsOf(2, 0, ss))
		if !slices.Equal(all, before) {
			t.Fatalf("R4: entries behind a writer: %v, want %v", all, before)
		}
		for i := range all {
			all[i] = api.Swap{Cell: 16 - i, Was: -1, Now: -1}
		}
		checkWrites(t, again, dirty(t), 334, wordsOf(2, 0, ss))
	}
}

func TestWrongEntriesStayAsTheyAre(t *testing.T) {
	for _, ss := range wrongRows() {
		before := slices.Clone(ss)
		checkNoWriter(t, 6, 2, ss...)
		if !slices.Equal(ss, before) {
			t.Fatalf("R4: entries that were refused: %v, want %v", ss, before)
		}
	}
}

// Writers are apart, of one slot, too; entries change between two steps of one.
func TestWritersAreApart(t *testing.T) {
	in := []api.Swap{{Cell: 2, Was: 3, Now: 4}, {Cell: 5, Was: 6, Now: 7}}
	p, q, r := newWriter(t, 7, 1, in...), newWriter(t, 7, 1, in...), newWriter(t, 8, 2)
	a := dirty(t)
	px, rx := wordsOf(1, 0, slices.Clone(in)), wordsOf(2, 0, nil)
	for i, x := range px {
		checkStore(t, p, a, 384+i, x, i == 7)
		in[i%2].Now++
		if i < 2 {
			checkStore(t, r, a, 434+i, rx[i], i == 1)
		}
	}
	checkWrites(t, q, a, 384, px)
	checkOver(t, p, a)
	checkOver(t, r, a)
}

func TestFromSeveralGoroutines(t *testing.T) {
	var wg sync.WaitGroup
	entries := full()
	view := api.View{Known: [16]bool{3: true, 9: true}, Was: [16]int{3: 7, 9: 8}, Now: [16]int{3: 70, 9: 80}}
	for n := range 4 {
		wg.Go(func() {
			a := arena.New()
			for gen := range 50 {
				w, _ := desc.NewWriter(n, gen, entries[n:]...)
				for over := false; w != nil && !over; {
					over, _ = w.Step(a)
				}
				if life, decision, ss, e := desc.Get(a, n); life != gen || decision != 0 || !slices.Equal(ss, entries[n:]) || e != api.OK {
					t.Errorf("R5: a descriptor of its own goroutine: %d, %d, %v, error %d", life, decision, ss, e)
				}
				if ss := desc.Rows(view); !slices.Equal(ss, []api.Swap{{Cell: 3, Was: 7, Now: 70}, {Cell: 9, Was: 8, Now: 80}}) {
					t.Errorf("R5: Rows in its own goroutine: %v", ss)
				}
			}
		})
	}
	wg.Wait()
}
