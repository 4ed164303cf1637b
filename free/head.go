package free

import (
	"pawl/api"
	"pawl/value"
)

const (
	// none stands where a link does, if it leads to no slot.
	none = 0
	// links is what a head's count is multiplied by, so that its link has room below.
	links = 16
)

// head is what stands at HeadAt: the link to the first slot, and a count of how often the row was turned, for a row that was turned and turned back is not as it was.
type head struct {
	count int
	first int
}

// headOf tells the head of a word; false, if it is the word of none.
func headOf(x int) (head, bool) {
	v, is := value.Get(x, api.MaxCount*links+api.MaxSlots)
	if !is || v%links > api.MaxSlots {
		return head{}, false
	}
	return head{count: v / links, first: v % links}, true
}

// turned is the head that comes behind h, with this first link.
func (h head) turned(first int) head {
	return head{count: (h.count + 1) % (api.MaxCount + 1), first: first}
}

// word is the one at HeadAt.
func (h head) word() int {
	return value.Put(h.count*links + h.first)
}

// linkOf tells the link of a word; false, if it is the word of none.
func linkOf(x int) (int, bool) {
	return value.Get(x, api.MaxSlots)
}

// leadTo is the link that leads to a slot.
func leadTo(slot int) int {
	return slot + 1
}

// slotOf is the slot to which a link leads; -1 of none.
func slotOf(link int) int {
	return link - 1
}

// nextAt is the place of a slot's link.
func nextAt(slot int) int {
	return api.NextAt + slot
}
