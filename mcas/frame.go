package mcas

import (
	"pawl/api"
	"pawl/arena"
	"pawl/layout"
	"pawl/value"
	"pawl/word"
)

// frame is the work upon one reference.
type frame interface {
	// step makes the next access; only of a frame that is not over.
	step(h *Help, a *arena.Arena) api.Errno
	// over tells whether there is none any more.
	over() bool
	// life tells the slot and the life of the descriptor that the reference tells.
	life() (int, int)
}

// work is what the frames of both kinds have in common: a life of a slot, a counter, and what was loaded of one of its entries.
type work struct {
	slot  int
	gen   int
	at    int
	entry int
	cell  int
	// was is the word of what was in the cell.
	was int
	// open is what was found ahead of settling the entry.
	open bool
}

// frameOf tells the frame of a reference, nil of a value; false, if x is no word.
func frameOf(x int) (frame, bool) {
	w, e := word.Get(x)
	if e != api.OK {
		return nil, false
	}
	switch w.Kind {
	case api.WordEntry:
		return &single{work: work{slot: w.Slot, gen: w.Gen, entry: w.Entry}, ref: x}, true
	case api.WordMcas:
		return &many{work: work{slot: w.Slot, gen: w.Gen}}, true
	}
	return nil, true
}

func (w *work) life() (int, int) {
	return w.slot, w.gen
}

// mine is the reference to the descriptor in that life.
func (w *work) mine() int {
	x, _ := word.Put(api.Word{Kind: api.WordMcas, Slot: w.slot, Gen: w.gen})
	return x
}

// first is the descriptor's first word in that life, with that decision.
func (w *work) first(decision int) int {
	return layout.PutFirst(w.gen, decision)
}

// loadDecision loads what was decided. Any value that is none of the life's own counts as lost: in another life nothing of this one can be won any more.
func (w *work) loadDecision(a *arena.Arena) (int, api.Errno) {
	v, e := load(a, layout.FirstAt(w.slot), api.MaxValue)
	if e != api.OK {
		return 0, e
	}
	switch value.Put(v) {
	case w.first(api.StateOpen):
		return api.StateOpen, api.OK
	case w.first(api.StateWon):
		return api.StateWon, api.OK
	}
	return api.StateLost, api.OK
}

// loadCell loads the entry's cell.
func (w *work) loadCell(a *arena.Arena) api.Errno {
	v, e := load(a, layout.CellAt(w.slot, w.entry), api.Cells-1)
	w.cell = v
	return e
}

// loadWas loads what was in the entry's cell.
func (w *work) loadWas(a *arena.Arena) api.Errno {
	v, e := load(a, layout.WasAt(w.slot, w.entry), api.MaxValue)
	w.was = value.Put(v)
	return e
}

// loadOpen loads whether a reference to the entry may still turn into one to the descriptor.
func (w *work) loadOpen(a *arena.Arena) api.Errno {
	decision, e := w.loadDecision(a)
	w.open = decision == api.StateOpen
	return e
}

// settle turns a reference to the entry into one to the descriptor, if that was open, and else back. If it is gone, another helper has turned it.
func (w *work) settle(a *arena.Arena, ref int) {
	now := w.was
	if w.open {
		now = w.mine()
	}
	a.Swap(w.cell, ref, now)
}

// load loads the word of a value that is at most that.
func load(a *arena.Arena, at int, most int) (int, api.Errno) {
	x, _ := a.Load(at)
	v, is := value.Get(x, most)
	if !is {
		return 0, api.ErrMcasForm
	}
	return v, api.OK
}
