// Package operation tells which operations may be: see DOC.md, chapter 7. Layers ahead of that one ask it, too.
package operation

import (
	"pawl/api"
	"pawl/limit"
)

// most is the most that each field of an operation may be; the least is 0.
type most struct {
	a int
	b int
	x int
}

// May tells whether o may be an operation.
func May(o api.Op) bool {
	m, ok := mostOf(o.Kind)
	return ok && limit.Within(o.A, 0, m.a) && limit.Within(o.B, 0, m.b) && limit.Within(o.X, 0, m.x)
}

// MayAll tells whether ops may be those of a transaction.
func MayAll(ops ...api.Op) bool {
	if !limit.Within(len(ops), 1, api.MaxOps) {
		return false
	}
	for _, o := range ops {
		if !May(o) {
			return false
		}
	}
	return true
}

// mostOf tells the limits of a kind of operation; false, if there is no such kind.
func mostOf(kind int) (most, bool) {
	const account, key = api.Accounts - 1, api.Keys - 1
	switch kind {
	case api.OpOpen, api.OpDeposit, api.OpWithdraw:
		return most{a: account, x: api.MaxBalance}, true
	case api.OpClose:
		return most{a: account}, true
	case api.OpTransfer:
		return most{a: account, b: account, x: api.MaxBalance}, true
	case api.OpInsert:
		return most{a: key, x: 1}, true
	case api.OpErase, api.OpFind:
		return most{a: key}, true
	case api.OpRange:
		return most{a: key, b: key}, true
	case api.OpSum, api.OpMin:
		return most{}, true
	}
	return most{}, false
}
