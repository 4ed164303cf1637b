// Package value tells the words of values, and the values of words: see DOC.md, chapter 1. The layers that keep numbers in an arena share it.
package value

import (
	"pawl/api"
	"pawl/limit"
	"pawl/word"
)

// Put tells the word of v; only of one that may be a value.
func Put(v int) int {
	x, _ := word.Put(api.Word{Kind: api.WordValue, Value: v})
	return x
}

// Get tells the value whose word x is; false, if x is the word of none, or of one above most.
func Get(x int, most int) (int, bool) {
	w, e := word.Get(x)
	if e != api.OK || w.Kind != api.WordValue || !limit.Within(w.Value, 0, most) {
		return 0, false
	}
	return w.Value, true
}
