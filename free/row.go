package free

import (
	"pawl/api"
	"pawl/arena"
)

// Row tells the free slots, in their row.
func Row(a *arena.Arena) ([]int, api.Errno) {
	if a == nil {
		return nil, api.ErrNil
	}
	// All makes no access, so who asks for the row isn't seen in the arena.
	words := a.All()
	h, is := headOf(words[api.HeadAt])
	if !is {
		return nil, api.ErrFreeForm
	}
	return follow(words, h.first)
}

// follow tells the slots to which a link and those behind it lead.
func follow(words []int, link int) ([]int, api.Errno) {
	var slots []int
	for link != none {
		// A row that leads back has no end.
		if len(slots) == api.MaxSlots {
			return nil, api.ErrFreeForm
		}
		slot := slotOf(link)
		next, is := linkOf(words[nextAt(slot)])
		if !is {
			return nil, api.ErrFreeForm
		}
		slots, link = append(slots, slot), next
	}
	return slots, api.OK
}
