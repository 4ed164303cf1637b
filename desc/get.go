package desc

import (
	"pawl/api"
	"pawl/arena"
	"pawl/layout"
	"pawl/value"
)

// Get tells the life, the decision and the entries of a slot's descriptor.
func Get(a *arena.Arena, slot int) (int, int, []api.Swap, api.Errno) {
	if a == nil {
		return 0, 0, nil, api.ErrNil
	}
	if !isSlot(slot) {
		return 0, 0, nil, api.ErrDescForm
	}
	// All makes no access, so who asks for a descriptor isn't seen in the arena.
	words := a.All()
	gen, decision, is := layout.GetFirst(words[layout.FirstAt(slot)])
	ss, may := entries(words, slot)
	if !is || !may {
		return 0, 0, nil, api.ErrDescForm
	}
	return gen, decision, ss, api.OK
}

// entries tells those that stand in a slot's descriptor; false, if they may not be.
func entries(words []int, slot int) ([]api.Swap, bool) {
	count, is := value.Get(words[layout.CountAt(slot)], api.MaxEntries)
	if !is {
		return nil, false
	}
	var ss []api.Swap
	for i := range count {
		s, is := entry(words, slot, i)
		if !is {
			return nil, false
		}
		ss = append(ss, s)
	}
	return ss, mayAll(ss)
}

// entry tells one of them, which may not be yet; false, if a word of it is no value's.
func entry(words []int, slot int, i int) (api.Swap, bool) {
	cell, is := value.Get(words[layout.CellAt(slot, i)], api.MaxValue)
	was, isWas := value.Get(words[layout.WasAt(slot, i)], api.MaxValue)
	now, isNow := value.Get(words[layout.NowAt(slot, i)], api.MaxValue)
	return api.Swap{Cell: cell, Was: was, Now: now}, is && isWas && isNow
}
