// Package layout tells where the words of a slot's descriptor stand, and what its first word tells: see DOC.md, chapter 13. Layers behind that one ask it, too.
package layout

import (
	"pawl/api"
	"pawl/limit"
	"pawl/value"
)

const (
	// decisions is what a life is multiplied by in a first word, so that its decision has room below.
	decisions = 4
	// head is how many words stand ahead of the entries, perEntry how many an entry takes.
	head     = 2
	perEntry = 3
)

// FirstAt is the place of the first word of a slot's descriptor.
func FirstAt(slot int) int {
	return api.DescAt + slot*api.DescSize
}

// CountAt is the place that tells how many entries there are.
func CountAt(slot int) int {
	return FirstAt(slot) + 1
}

// CellAt is the place of an entry's cell.
func CellAt(slot int, entry int) int {
	return FirstAt(slot) + head + entry*perEntry
}

// WasAt is the place of what was in an entry's cell.
func WasAt(slot int, entry int) int {
	return CellAt(slot, entry) + 1
}

// NowAt is the place of what is to be in an entry's cell.
func NowAt(slot int, entry int) int {
	return WasAt(slot, entry) + 1
}

// PutFirst tells the first word of a descriptor; only of a life and a decision that may be.
func PutFirst(gen int, decision int) int {
	return value.Put(gen*decisions + decision)
}

// GetFirst tells the life and the decision of a first word; false, if it is the word of none.
func GetFirst(x int) (int, int, bool) {
	v, is := value.Get(x, api.MaxGen*decisions+api.StateLost)
	gen, decision := v/decisions, v%decisions
	if !is || !limit.Within(decision, api.StateOpen, api.StateLost) {
		return 0, 0, false
	}
	return gen, decision, true
}
