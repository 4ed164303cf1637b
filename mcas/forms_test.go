package mcas_test

import (
	"testing"

	"pawl/api"
)

// noCounts and noCells are words that are none of a count, or of a cell.
func noCounts() []int {
	return append(noValues(), val(17), val(18), val(32), val(256), val(1<<32), val(1<<32+2), val(mostValue))
}

func noCells() []int {
	return append(noValues(), val(16), val(17), val(18), val(32), val(256), val(1<<32), val(1<<32+9), val(mostValue))
}

// failsAt looks that the next step loads a word at a place, which is none of what may be there, and that the helper is over with it.
func failsAt(t *testing.T, wantWon bool, at int, xs []int, toThere func() *track) {
	t.Helper()
	for _, x := range xs {
		k := toThere()
		put(t, k.a, at, x)
		k.fails(load(at, x), wantWon)
	}
}

func TestNoFirstWord(t *testing.T) {
	failsAt(t, false, b, noValues(), func() *track {
		return beginTwo(t)
	})
	for entry := range 2 {
		failsAt(t, false, b, noValues(), func() *track {
			return behindRow5(t, entry)
		})
		failsAt(t, false, b, noValues(), func() *track {
			return aheadOfRow14(t, entry)
		})
	}
	failsAt(t, false, b, noValues(), func() *track {
		k := beginTwo(t)
		fill(k, 0)
		fill(k, 1)
		k.goes(swap(b, open(7), won(7)))
		return k
	})
	failsAt(t, false, b, noValues(), func() *track {
		return aheadOfSingle(t, 2)
	})
}

// behindRow5 is a helper ahead of row 6 of an entry.
func behindRow5(t *testing.T, entry int) *track {
	t.Helper()
	k := beginTwo(t)
	if entry == 1 {
		fill(k, 0)
	}
	toCell(k, entry)
	s := two()[entry]
	k.puts(swap(s.Cell, val(s.Was), entryOf(4, 7, entry, 1, 30+entry)))
	return k
}

// aheadOfRow14 is one that found another descriptor at an entry.
func aheadOfRow14(t *testing.T, entry int) *track {
	t.Helper()
	k := beginTwo(t)
	if entry == 1 {
		fill(k, 0)
	}
	toCell(k, entry)
	s := two()[entry]
	put(t, k.a, s.Cell, mine(10, 3))
	k.puts(swap(s.Cell, mine(10, 3), mine(10, 3)))
	return k
}

// aheadOfSingle is a helper of a reference to an entry with so many steps behind it.
func aheadOfSingle(t *testing.T, steps int) *track {
	t.Helper()
	ref := entryOf(4, 7, 1, 2, 88)
	a := laid(t, 4, open(7), two()...)
	put(t, a, 9, ref)
	k := begin(t, a, 1, 30, ref)
	k.in(4, 7)
	for _, want := range []api.Touch{load(cellAt(4, 1), val(9)), load(wasAt(4, 1), val(7))}[:steps] {
		k.goes(want)
	}
	return k
}

// aheadOfRow10 is a helper of what is won, or lost, by its own swap or another's.
func aheadOfRow10(t *testing.T, isWon bool, own bool) *track {
	t.Helper()
	first := lost(7)
	if isWon {
		first = won(7)
	}
	k := beginTwo(t)
	if own {
		fill(k, 0)
		fill(k, 1)
		if !isWon {
			put(t, k.a, b, first)
			k.goes(swap(b, first, first))
		} else {
			k.goes(swap(b, open(7), first))
		}
	}
	put(t, k.a, b, first)
	k.goes(load(b, first))
	return k
}

func TestNoCount(t *testing.T) {
	failsAt(t, false, countAt(4), noCounts(), func() *track {
		k := beginTwo(t)
		k.goes(load(b, open(7)))
		return k
	})
	for _, own := range []bool{true, false} {
		for _, isWon := range []bool{true, false} {
			failsAt(t, isWon, countAt(4), noCounts(), func() *track {
				return aheadOfRow10(t, isWon, own)
			})
		}
	}
}

func TestNoCell(t *testing.T) {
	failsAt(t, false, cellAt(4, 0), noCells(), func() *track {
		k := beginTwo(t)
		k.goes(load(b, open(7)))
		k.goes(load(countAt(4), val(2)))
		return k
	})
	failsAt(t, false, cellAt(4, 1), noCells(), func() *track {
		k := beginTwo(t)
		fill(k, 0)
		return k
	})
	failsAt(t, false, cellAt(4, 1), noCells(), func() *track {
		return aheadOfSingle(t, 0)
	})
	for _, isWon := range []bool{true, false} {
		for entry := range 2 {
			failsAt(t, isWon, cellAt(4, entry), noCells(), func() *track {
				return aheadOfRow11(t, isWon, entry)
			})
		}
	}
}

// aheadOfRow11 is a helper of what is decided, ahead of row 11 of an entry.
func aheadOfRow11(t *testing.T, isWon bool, entry int) *track {
	t.Helper()
	k := aheadOfRow10(t, isWon, true)
	k.goes(load(countAt(4), val(2)))
	if entry == 0 {
		return k
	}
	k.goes(load(cellAt(4, 0), val(2)))
	then := thenOf(k, isWon, 0)
	k.goes(swap(2, me, then))
	return k
}

// thenOf does row 12 of an entry, and tells what it loads.
func thenOf(k *track, isWon bool, entry int) int {
	k.t.Helper()
	if isWon {
		k.goes(load(nowAt(4, entry), val(two()[entry].Now)))
		return val(two()[entry].Now)
	}
	k.goes(load(wasAt(4, entry), val(two()[entry].Was)))
	return val(two()[entry].Was)
}

func TestNoWas(t *testing.T) {
	for entry := range 2 {
		failsAt(t, false, wasAt(4, entry), noValues(), func() *track {
			k := beginTwo(t)
			if entry == 1 {
				fill(k, 0)
			} else {
				k.goes(load(b, open(7)))
				k.goes(load(countAt(4), val(2)))
			}
			k.goes(load(cellAt(4, entry), val(two()[entry].Cell)))
			return k
		})
		failsAt(t, false, wasAt(4, entry), noValues(), func() *track {
			k := aheadOfRow11(t, false, entry)
			k.goes(load(cellAt(4, entry), val(two()[entry].Cell)))
			return k
		})
	}
	failsAt(t, false, wasAt(4, 1), noValues(), func() *track {
		return aheadOfSingle(t, 1)
	})
}

func TestNoThen(t *testing.T) {
	for entry := range 2 {
		failsAt(t, true, nowAt(4, entry), noValues(), func() *track {
			k := aheadOfRow11(t, true, entry)
			k.goes(load(cellAt(4, entry), val(two()[entry].Cell)))
			return k
		})
	}
}

// Words that a helper does not ask for may be none: what is to be of what is lost, what was of what is won, and entries beyond the last.
func TestWordsThatAreNotAsked(t *testing.T) {
	for _, isWon := range []bool{true, false} {
		k := aheadOfRow10(t, isWon, true)
		for entry := range 2 {
			if isWon {
				put(t, k.a, wasAt(4, entry), -1)
			} else {
				put(t, k.a, nowAt(4, entry), -1)
			}
		}
		checkBack(k, 4, 7, isWon, two())
		checkCells(t, k.a, isWon, two(), -1, 0)
	}
}

// A swap tells nothing of what it finds at rows 4 (of a reference to an entry), 7, 8, 9 and 13, be it a word or not.
func TestSwapsThatFindNoWord(t *testing.T) {
	for _, x := range noWords() {
		k := behindRow5(t, 1)
		k.goes(load(b, open(7)))
		put(t, k.a, 9, x)
		k.goes(swap(9, x, x))
		put(t, k.a, b, x)
		k.goes(swap(b, x, x))
		put(t, k.a, b, lost(7))
		k.goes(load(b, lost(7)))
		put(t, k.a, 2, x)
		checkBack(k, 4, 7, false, two())
		k = aheadOfSingle(t, 2)
		k.goes(load(b, open(7)))
		put(t, k.a, 9, x)
		k.ends(swap(9, x, x), false)
	}
}

func TestSwapOfRow9ThatFindsNoWord(t *testing.T) {
	for _, x := range noValues() {
		k := beginTwo(t)
		put(t, k.a, 2, val(50))
		toCell(k, 0)
		k.puts(swap(2, val(50), val(50)))
		put(t, k.a, b, x)
		k.goes(swap(b, x, x))
		k.fails(load(b, x), false)
	}
}

// A word that is none in a frame atop ends the helper, with the frames beneath; what is told of the last step is that frame's.
func TestFramesAtopThatFail(t *testing.T) {
	for _, x := range noValues() {
		k := aheadOfRow14(t, 1)
		k.goes(load(b, open(7)))
		k.in(10, 3)
		put(t, k.a, firstAt(10), x)
		k.fails(load(firstAt(10), x), false)
	}
	for _, x := range noCells() {
		k := beginTwo(t)
		ref := entryOf(10, 3, 15, 0, 0)
		put(t, k.a, 2, ref)
		toCell(k, 0)
		k.puts(swap(2, ref, ref))
		k.in(10, 3)
		put(t, k.a, cellAt(10, 15), x)
		k.fails(load(cellAt(10, 15), x), false)
	}
}

// A frame atop that was won is not the first one.
func TestFramesAtopThatFailBehindTheirDecision(t *testing.T) {
	k := aheadOfRow14(t, 0)
	k.goes(load(b, open(7)))
	k.in(10, 3)
	put(t, k.a, firstAt(10), won(3))
	k.goes(load(firstAt(10), won(3)))
	k.fails(load(countAt(10), -7-4*countAt(10)), false)
}
