package mcas

import (
	"pawl/api"
	"pawl/arena"
	"pawl/layout"
	"pawl/value"
)

// Where the counter of a WordMcas's frame stands: at the row of the chapter's table that comes next (row 1 is the first here, 14 the one ahead of the last), or behind all.
const (
	manyBegin = iota
	manyCount
	manyCell
	manyWas
	manyPut
	manyOpen
	manySettle
	manyWin
	manyLose
	manyCountBack
	manyCellBack
	manyThen
	manyClear
	manyOther
	manyOver
)

// many is the frame of a WordMcas: it puts references to that descriptor into its cells, decides it, and takes them out again.
type many struct {
	work
	count int
	// put is the reference to an entry that was put last, other the frame of another descriptor that stood in its way.
	put   int
	other frame
	won   bool
	// then is the word that a cell comes to behind the decision.
	then int
}

// step makes the next access. The row below comes next, unless what was found leads to another one.
func (m *many) step(h *Help, a *arena.Arena) api.Errno {
	at := m.at
	m.at++
	switch at {
	case manyBegin:
		_, e := m.ask(a)
		return e
	case manyCount:
		return m.loadCount(a, manyCell, manyWin)
	case manyCell, manyCellBack:
		return m.loadCell(a)
	case manyWas:
		return m.loadWas(a)
	case manyPut:
		return m.putReference(h, a)
	case manyOpen:
		return m.loadOpen(a)
	case manySettle:
		m.settle(a, m.put)
		m.goTo(m.entry+1, manyCell, manyWin)
	case manyWin:
		m.decide(a, api.StateWon)
	case manyLose:
		m.decide(a, api.StateLost)
	case manyCountBack:
		return m.loadCount(a, manyCellBack, manyOver)
	case manyThen:
		return m.loadThen(a)
	case manyClear:
		m.clear(a)
	case manyOther:
		return m.helpOther(h, a)
	}
	return api.OK
}

func (m *many) over() bool {
	return m.at == manyOver
}

// ask loads whether the descriptor is open; a decided one is to come out of its cells.
func (m *many) ask(a *arena.Arena) (bool, api.Errno) {
	decision, e := m.loadDecision(a)
	if e != api.OK {
		return false, e
	}
	if decision == api.StateOpen {
		return true, api.OK
	}
	m.won, m.at = decision == api.StateWon, manyCountBack
	return false, api.OK
}

// loadCount loads how many entries there are; each is gone through from the row first on, and the row behind comes behind them.
func (m *many) loadCount(a *arena.Arena, first int, behind int) api.Errno {
	v, e := load(a, layout.CountAt(m.slot), api.MaxEntries)
	m.count = v
	m.goTo(0, first, behind)
	return e
}

// goTo goes to the row first of an entry, or to the one behind, if there is no such entry.
func (m *many) goTo(entry int, first int, behind int) {
	m.entry, m.at = entry, first
	if entry == m.count {
		m.at = behind
	}
}

// putReference swaps a new reference to the entry into its cell, for what was there must be there until it is known whether the descriptor is open.
func (m *many) putReference(h *Help, a *arena.Arena) api.Errno {
	m.put = h.reference(m.slot, m.gen, m.entry)
	there, _ := a.Swap(m.cell, m.was, m.put)
	switch there {
	case m.was:
		return api.OK
	case m.mine():
		m.goTo(m.entry+1, manyCell, manyWin)
		return api.OK
	}
	return m.meet(h, there)
}

// meet finds its way by a word in the cell that is neither what was there nor the descriptor's own reference.
func (m *many) meet(h *Help, there int) api.Errno {
	f, is := frameOf(there)
	if !is {
		return api.ErrMcasForm
	}
	switch f.(type) {
	case *single:
		m.at = manyPut
		return h.push(f)
	case *many:
		m.at, m.other = manyOther, f
	default:
		m.at = manyLose
	}
	return api.OK
}

// helpOther lets the frame of the descriptor that stands in the way go atop. It asks ahead of that, so that only open ones wait beneath, whose cells rise.
func (m *many) helpOther(h *Help, a *arena.Arena) api.Errno {
	open, e := m.ask(a)
	if !open {
		return e
	}
	m.at = manyPut
	return h.push(m.other)
}

// decide decides the descriptor, unless another helper has done so; what came of it is asked next.
func (m *many) decide(a *arena.Arena, decision int) {
	a.Swap(layout.FirstAt(m.slot), m.first(api.StateOpen), m.first(decision))
	m.at = manyBegin
}

// loadThen loads what the entry's cell comes to: what is to be there, or what was.
func (m *many) loadThen(a *arena.Arena) api.Errno {
	at := layout.WasAt(m.slot, m.entry)
	if m.won {
		at = layout.NowAt(m.slot, m.entry)
	}
	v, e := load(a, at, api.MaxValue)
	m.then = value.Put(v)
	return e
}

// clear takes the descriptor out of the entry's cell. If it is gone, another helper has taken it out.
func (m *many) clear(a *arena.Arena) {
	a.Swap(m.cell, m.mine(), m.then)
	m.goTo(m.entry+1, manyCellBack, manyOver)
}
