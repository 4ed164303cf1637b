// Package state tells which states may be: see DOC.md, chapter 8. Layers behind that one ask it, too.
package state

import (
	"pawl/api"
	"pawl/limit"
)

// Closed stands where a balance does, of an account that is closed.
const Closed = -1

// May tells whether s may be a state.
func May(s api.State) bool {
	for _, balance := range s.Balances {
		if !limit.Within(balance, Closed, api.MaxBalance) {
			return false
		}
	}
	return true
}
