package mcas_test

import (
	"testing"

	"pawl/api"
	"pawl/arena"
)

// checkSingle looks at all steps of a helper of a reference to an entry, of a descriptor with that first word.
func checkSingle(t *testing.T, a *arena.Arena, ref int, slot int, gen int, entry int, s api.Swap, first int) {
	t.Helper()
	k := begin(t, a, 3, mostSeq, ref)
	k.in(slot, gen)
	k.goes(load(cellAt(slot, entry), val(s.Cell)))
	k.goes(load(wasAt(slot, entry), val(s.Was)))
	k.goes(load(firstAt(slot), first))
	there := a.All()[s.Cell]
	want := swap(s.Cell, there, there)
	if there == ref {
		want.Now = val(s.Was)
		if first == open(gen) {
			want.Now = mine(slot, gen)
		}
	}
	k.ends(want, false)
}

// All numbers here are worked out by hand.
func TestReferenceByHand(t *testing.T) {
	for _, c := range []struct{ first, then int }{{32, 134}, {36, 20}, {40, 20}, {48, 20}} {
		a := arena.New()
		for at, x := range map[int]int{84: c.first, 85: 4, 86: 12, 87: 20, 88: 24, 3: 8862564389} {
			put(t, a, at, x)
		}
		k := begin(t, a, 0, 7, 8862564389)
		k.in(1, 2)
		k.goes(api.Touch{Kind: 0, At: 86, Was: 12, Now: 12})
		k.goes(api.Touch{Kind: 0, At: 87, Was: 20, Now: 20})
		k.goes(api.Touch{Kind: 0, At: 84, Was: c.first, Now: c.first})
		k.ends(api.Touch{Kind: 2, At: 3, Was: 8862564389, Now: c.then}, false)
	}
}

// firsts are first words of a life: open, won, lost, and those of other lives, and of values that are none.
func firsts(gen int) []int {
	return []int{
		open(gen), won(gen), lost(gen), open(gen) + 12,
		open(gen + 1), won(gen + 1), lost(gen + 1), open(gen - 1), won(gen - 1), lost(gen - 1),
		open(mostGen + 1), val(mostValue), open(gen) + 16<<20,
	}
}

func TestReferenceOfEachEntry(t *testing.T) {
	for entry, s := range full() {
		for _, gen := range []int{1, 300, mostGen - 1} {
			for _, first := range firsts(gen) {
				slot := (entry + gen) % 12
				a := laid(t, slot, first, full()...)
				ref := entryOf(slot, gen, entry, entry%4, 77*entry)
				put(t, a, s.Cell, ref)
				checkSingle(t, a, ref, slot, gen, entry, s, first)
			}
		}
	}
}

// A reference that is gone stays gone, whatever stands in its place, be it one that is alike but for who put it.
func TestReferenceThatIsGone(t *testing.T) {
	s := api.Swap{Cell: 9, Was: 5, Now: 6}
	ref := entryOf(4, 7, 1, 2, 88)
	for _, there := range []int{
		val(5), val(6), val(0), mine(4, 7), mine(4, 6), mine(5, 7), -1, 3, mostInt,
		entryOf(4, 7, 1, 2, 87), entryOf(4, 7, 1, 1, 88), entryOf(4, 7, 0, 2, 88), entryOf(4, 6, 1, 2, 88), entryOf(3, 7, 1, 2, 88),
	} {
		for _, first := range firsts(7) {
			a := laid(t, 4, first, api.Swap{Cell: 2, Was: 1, Now: 1}, s)
			put(t, a, 9, there)
			checkSingle(t, a, ref, 4, 7, 1, s, first)
		}
	}
}

// How many entries there are, and what is to be, is not asked; so those words may be none.
func TestReferenceLooksAtItsEntryOnly(t *testing.T) {
	a := dirty(t)
	put(t, a, firstAt(4), won(7))
	put(t, a, cellAt(4, 15), val(9))
	put(t, a, wasAt(4, 15), val(5))
	ref := entryOf(4, 7, 15, 2, 88)
	put(t, a, 9, ref)
	checkSingle(t, a, ref, 4, 7, 15, api.Swap{Cell: 9, Was: 5}, won(7))
	put(t, a, 9, ref)
	put(t, a, firstAt(4), open(7))
	checkSingle(t, a, ref, 4, 7, 15, api.Swap{Cell: 9, Was: 5}, open(7))
}

// What the third step found counts, though the fourth comes behind the decision.
func TestReferenceOfWhatIsDecidedBetween(t *testing.T) {
	for _, c := range []struct{ first, later, want int }{
		{open(7), lost(7), mine(4, 7)}, {open(7), won(7), mine(4, 7)}, {open(7), open(8), mine(4, 7)}, {open(6), open(7), val(5)}, {lost(7), open(7), val(5)},
	} {
		a := laid(t, 4, c.first, api.Swap{Cell: 9, Was: 5, Now: 6})
		ref := entryOf(4, 7, 0, 2, 88)
		put(t, a, 9, ref)
		k := begin(t, a, 0, 5, ref)
		k.in(4, 7)
		k.goes(load(cellAt(4, 0), val(9)))
		k.goes(load(wasAt(4, 0), val(5)))
		k.goes(load(firstAt(4), c.first))
		put(t, a, firstAt(4), c.later)
		k.ends(swap(9, ref, c.want), false)
	}
}
