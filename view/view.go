// Package view tells which views may be: see DOC.md, chapter 5. Layers behind that one ask it, too.
package view

import (
	"pawl/api"
	"pawl/limit"
)

// May tells whether v may be a view. What is not known is looked at, too.
func May(v api.View) bool {
	return allValues(v.Was) && allValues(v.Now)
}

func allValues(xs [api.Cells]int) bool {
	for _, x := range xs {
		if !limit.Within(x, 0, api.MaxValue) {
			return false
		}
	}
	return true
}
