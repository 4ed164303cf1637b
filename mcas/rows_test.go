package mcas_test

import (
	"testing"

	"pawl/api"
	"pawl/arena"
)

// two are the entries of most tests here: of slot 4 in its life 7, whose reference is me.
func two() []api.Swap {
	return []api.Swap{{Cell: 2, Was: 5, Now: 6}, {Cell: 9, Was: 7, Now: 8}}
}

const (
	// me is mine(4, 7), and b where its descriptor begins.
	me = 4*(16*7+4) + 2
	b  = 234
)

// beginTwo is a helper of those, by thread 1, with what is laid.
func beginTwo(t *testing.T) *track {
	t.Helper()
	k := begin(t, laid(t, 4, open(7), two()...), 1, 30, me)
	k.in(4, 7)
	return k
}

// toCell does rows 1 to 4 of the first entry, or 3 and 4 of the second.
func toCell(k *track, entry int) {
	k.t.Helper()
	if entry == 0 {
		k.goes(load(b, open(7)))
		k.goes(load(countAt(4), val(2)))
	}
	k.goes(load(cellAt(4, entry), val(two()[entry].Cell)))
	k.goes(load(wasAt(4, entry), val(two()[entry].Was)))
}

// fill does all of an entry, rows 3 to 7.
func fill(k *track, entry int) {
	k.t.Helper()
	s := two()[entry]
	p := entryOf(4, 7, entry, 1, k.seq)
	toCell(k, entry)
	k.puts(swap(s.Cell, val(s.Was), p))
	k.goes(load(b, open(7)))
	k.goes(swap(s.Cell, p, me))
}

// win does rows 8 and 1, and all that follows.
func win(k *track) {
	k.t.Helper()
	k.goes(swap(b, open(7), won(7)))
	k.goes(load(b, won(7)))
	checkBack(k, 4, 7, true, two())
	checkCells(k.t, k.a, true, two(), -1, 0)
}

// lose does the same from row 9 on; the cell of an entry (-1: none) holds another word.
func lose(k *track, differs int, other int) {
	k.t.Helper()
	k.goes(swap(b, open(7), lost(7)))
	k.goes(load(b, lost(7)))
	checkBack(k, 4, 7, false, two())
	checkCells(k.t, k.a, false, two(), differs, other)
}

// decided are the first words to which another helper may bring it, or another life, with whether they tell that it is won.
func decided() map[int]bool {
	return map[int]bool{won(7): true, lost(7): false, open(8): false, won(8): false, lost(8): false, open(6): false, won(6): false, open(7) + 12: false, val(mostValue): false}
}

// Row 5: the descriptor's own reference is there already.
func TestOwnReferenceIsThere(t *testing.T) {
	for _, held := range [][]bool{{true, false}, {false, true}, {true, true}} {
		k := beginTwo(t)
		for e, s := range two() {
			if held[e] {
				put(t, k.a, s.Cell, me)
			}
		}
		for e, s := range two() {
			if !held[e] {
				fill(k, e)
				continue
			}
			toCell(k, e)
			k.puts(swap(s.Cell, me, me))
		}
		win(k)
	}
}

// Row 5: another value is there, at either entry.
func TestAnotherValueIsThere(t *testing.T) {
	for e, s := range two() {
		for _, other := range []int{val(0), val(s.Now), val(mostValue)} {
			k := beginTwo(t)
			put(t, k.a, s.Cell, other)
			if e == 1 {
				fill(k, 0)
			}
			toCell(k, e)
			k.puts(swap(s.Cell, other, other))
			lose(k, e, other)
		}
	}
}

// Row 5: no word is there.
func TestNoWordIsThere(t *testing.T) {
	for e, s := range two() {
		for _, x := range noWords() {
			k := beginTwo(t)
			put(t, k.a, s.Cell, x)
			if e == 1 {
				fill(k, 0)
			}
			toCell(k, e)
			k.putsAndFails(swap(s.Cell, x, x))
		}
	}
}

// Row 5: a reference to an entry of the same descriptor is there, which another helper has put.
func TestReferenceToOwnEntryIsThere(t *testing.T) {
	for e, s := range two() {
		k := beginTwo(t)
		ref := entryOf(4, 7, e, 3, 12)
		put(t, k.a, s.Cell, ref)
		if e == 1 {
			fill(k, 0)
		}
		toCell(k, e)
		k.puts(swap(s.Cell, ref, ref))
		k.goes(load(cellAt(4, e), val(s.Cell)))
		k.goes(load(wasAt(4, e), val(s.Was)))
		k.goes(load(b, open(7)))
		k.goes(swap(s.Cell, ref, me))
		k.puts(swap(s.Cell, me, me))
		if e == 0 {
			fill(k, 1)
		}
		win(k)
	}
}

// Row 5: such a one, and the descriptor is decided by another helper while the frame of it is atop.
func TestReferenceToOwnEntryIsThereAndItIsDecided(t *testing.T) {
	for first, isWon := range decided() {
		k := beginTwo(t)
		ref := entryOf(4, 7, 0, 3, 12)
		put(t, k.a, 2, ref)
		toCell(k, 0)
		k.puts(swap(2, ref, ref))
		k.goes(load(cellAt(4, 0), val(2)))
		put(t, k.a, b, first)
		k.goes(load(wasAt(4, 0), val(5)))
		k.goes(load(b, first))
		k.goes(swap(2, ref, val(5)))
		// Beneath it goes on at row 5, and learns at row 6 what has come between.
		p := entryOf(4, 7, 0, 1, 31)
		k.puts(swap(2, val(5), p))
		k.goes(load(b, first))
		k.goes(swap(2, p, val(5)))
		secondIsLeft(k, first, isWon)
	}
}

// secondIsLeft does the rows behind row 7 of the first entry, where the descriptor is not open any more, but no cell has it.
func secondIsLeft(k *track, first int, isWon bool) {
	k.t.Helper()
	p := entryOf(4, 7, 1, 1, k.seq)
	toCell(k, 1)
	k.puts(swap(9, val(7), p))
	k.goes(load(b, first))
	k.goes(swap(9, p, val(7)))
	k.goes(swap(b, first, first))
	k.goes(load(b, first))
	checkBack(k, 4, 7, isWon, two())
	checkCells(k.t, k.a, false, two(), -1, 0)
}

// Row 5: a reference to an entry of another descriptor is there; it turns, and what is there then is seen when row 5 comes again.
func TestReferenceToAnotherEntryIsThere(t *testing.T) {
	for _, first := range []int{won(3), lost(3), open(2), won(4), val(mostValue)} {
		for _, was := range []int{5, 6} {
			k := beginTwo(t)
			lay(t, k.a, 10, first, api.Swap{Cell: 1, Was: 1, Now: 1}, api.Swap{Cell: 2, Was: was, Now: 4})
			ref := entryOf(10, 3, 1, 0, mostSeq)
			put(t, k.a, 2, ref)
			toCell(k, 0)
			k.puts(swap(2, ref, ref))
			k.in(10, 3)
			k.goes(load(cellAt(10, 1), val(2)))
			k.goes(load(wasAt(10, 1), val(was)))
			k.goes(load(firstAt(10), first))
			k.goes(swap(2, ref, val(was)))
			k.in(4, 7)
			if was != 5 {
				k.puts(swap(2, val(was), val(was)))
				lose(k, 0, val(was))
				continue
			}
			p := entryOf(4, 7, 0, 1, 31)
			k.puts(swap(2, val(5), p))
			k.goes(load(b, open(7)))
			k.goes(swap(2, p, me))
			fill(k, 1)
			win(k)
		}
	}
}

// Rows 5 and 14: a reference to an entry of another descriptor, which is open: that is helped, too, once the reference has turned.
func TestReferenceToAnotherEntryOfWhatIsOpen(t *testing.T) {
	k := beginTwo(t)
	// The other one wants cell 2 alone, and leaves there what is looked for here.
	lay(t, k.a, 10, open(3), api.Swap{Cell: 2, Was: 4, Now: 5})
	ref, you := entryOf(10, 3, 0, 0, 66), mine(10, 3)
	put(t, k.a, 2, ref)
	toCell(k, 0)
	k.puts(swap(2, ref, ref))
	k.in(10, 3)
	k.goes(load(cellAt(10, 0), val(2)))
	k.goes(load(wasAt(10, 0), val(4)))
	k.goes(load(firstAt(10), open(3)))
	k.goes(swap(2, ref, you))
	k.in(4, 7)
	k.puts(swap(2, you, you))
	k.goes(load(b, open(7)))
	helpYou(k, 2)
	fill5(k)
	fill(k, 1)
	win(k)
}

// helpYou does all of a frame of slot 10 in its life 3 with one entry, which wants that cell and has it.
func helpYou(k *track, cell int) {
	k.t.Helper()
	you := mine(10, 3)
	k.in(10, 3)
	k.goes(load(firstAt(10), open(3)))
	k.goes(load(countAt(10), val(1)))
	k.goes(load(cellAt(10, 0), val(cell)))
	k.goes(load(wasAt(10, 0), val(4)))
	k.puts(swap(cell, you, you))
	k.goes(swap(firstAt(10), open(3), won(3)))
	takeYou(k, cell, won(3))
}

// takeYou does the rows of that frame from row 1 on when it is won, or lost.
func takeYou(k *track, cell int, first int) {
	k.t.Helper()
	k.in(10, 3)
	k.goes(load(firstAt(10), first))
	k.goes(load(countAt(10), val(1)))
	k.goes(load(cellAt(10, 0), val(cell)))
	x := val(4)
	if first == won(3) {
		x = val(5)
		k.goes(load(nowAt(10, 0), x))
	} else {
		k.goes(load(wasAt(10, 0), x))
	}
	k.goes(swap(cell, mine(10, 3), x))
	k.in(4, 7)
}

// fill5 does rows 5 to 7 of the first entry, when what was is there again.
func fill5(k *track) {
	k.t.Helper()
	p := entryOf(4, 7, 0, 1, k.seq)
	k.puts(swap(2, val(5), p))
	k.goes(load(b, open(7)))
	k.goes(swap(2, p, me))
}

// Row 14: another descriptor is there, which is open, or decided; that frame finds out itself.
func TestAnotherDescriptorIsThere(t *testing.T) {
	for _, first := range []int{open(3), won(3), lost(3), won(4), val(mostValue)} {
		k := beginTwo(t)
		lay(t, k.a, 10, first, api.Swap{Cell: 2, Was: 4, Now: 5})
		put(t, k.a, 2, mine(10, 3))
		toCell(k, 0)
		k.puts(swap(2, mine(10, 3), mine(10, 3)))
		k.goes(load(b, open(7)))
		switch first {
		case open(3):
			helpYou(k, 2)
		default:
			takeYou(k, 2, first)
		}
		if first == open(3) || first == won(3) {
			fill5(k)
			fill(k, 1)
			win(k)
			continue
		}
		k.puts(swap(2, val(4), val(4)))
		lose(k, 0, val(4))
	}
}

// Row 14: the same slot in another life is another descriptor, too.
func TestAnotherLifeIsThere(t *testing.T) {
	k := beginTwo(t)
	old := mine(4, 6)
	put(t, k.a, 2, old)
	toCell(k, 0)
	k.puts(swap(2, old, old))
	k.goes(load(b, open(7)))
	k.in(4, 6)
	k.goes(load(b, open(7)))
	k.goes(load(countAt(4), val(2)))
	k.goes(load(cellAt(4, 0), val(2)))
	k.goes(load(wasAt(4, 0), val(5)))
	k.goes(swap(2, old, val(5)))
	k.goes(load(cellAt(4, 1), val(9)))
	k.goes(load(wasAt(4, 1), val(7)))
	k.goes(swap(9, val(7), val(7)))
	k.in(4, 7)
	fill5(k)
	fill(k, 1)
	win(k)
}

// Row 14: it is decided by another helper; so it does not help the other one, but takes itself out of its cells.
func TestAnotherDescriptorIsThereAndItIsDecided(t *testing.T) {
	for first, isWon := range decided() {
		for e, s := range two() {
			k := beginTwo(t)
			lay(t, k.a, 10, open(3), api.Swap{Cell: s.Cell, Was: 4, Now: 5})
			put(t, k.a, s.Cell, mine(10, 3))
			if e == 1 {
				fill(k, 0)
			}
			toCell(k, e)
			k.puts(swap(s.Cell, mine(10, 3), mine(10, 3)))
			put(t, k.a, b, first)
			k.goes(load(b, first))
			checkBack(k, 4, 7, isWon, two())
			checkCells(t, k.a, isWon, two()[:e], -1, 0)
			if x := k.a.All()[s.Cell]; x != mine(10, 3) {
				t.Errorf("P14.2: the cell of another descriptor: %d", x)
			}
			if x := k.a.All()[firstAt(10)]; x != open(3) {
				t.Errorf("P14.2: the first word of another descriptor: %d", x)
			}
		}
	}
}

// Row 14, again and again: the other one is there once more when row 5 comes again.
func TestAnotherDescriptorIsThereOnceMore(t *testing.T) {
	k := beginTwo(t)
	lay(t, k.a, 10, won(3), api.Swap{Cell: 2, Was: 4, Now: 5})
	toCell(k, 0)
	for range 5 {
		put(t, k.a, 2, mine(10, 3))
		k.puts(swap(2, mine(10, 3), mine(10, 3)))
		k.goes(load(b, open(7)))
		takeYou(k, 2, won(3))
	}
	fill5(k)
	fill(k, 1)
	win(k)
}

// Rows 6 and 7: it is decided between the reference's swap and its turn, which turns back then.
func TestDecidedAheadOfRow6(t *testing.T) {
	for first, isWon := range decided() {
		k := beginTwo(t)
		toCell(k, 0)
		p := entryOf(4, 7, 0, 1, 30)
		k.puts(swap(2, val(5), p))
		put(t, k.a, b, first)
		k.goes(load(b, first))
		k.goes(swap(2, p, val(5)))
		secondIsLeft(k, first, isWon)
	}
}

// Row 7: it is decided behind row 6, so the reference still turns to the descriptor's, and comes out with rows 10 to 13.
func TestDecidedBehindRow6(t *testing.T) {
	for first, isWon := range decided() {
		k := beginTwo(t)
		fill(k, 0)
		toCell(k, 1)
		p := entryOf(4, 7, 1, 1, 31)
		k.puts(swap(9, val(7), p))
		k.goes(load(b, open(7)))
		put(t, k.a, b, first)
		k.goes(swap(9, p, me))
		k.goes(swap(b, first, first))
		k.goes(load(b, first))
		checkBack(k, 4, 7, isWon, two())
		checkCells(t, k.a, isWon, two(), -1, 0)
	}
}

// Row 7: the reference is gone, for another helper has turned it.
func TestReferenceIsGoneAtRow7(t *testing.T) {
	for _, there := range []int{me, val(5), val(6), mine(10, 3), entryOf(4, 7, 0, 1, 29), entryOf(4, 7, 0, 2, 30), -1} {
		for _, ahead := range []bool{true, false} {
			k := beginTwo(t)
			toCell(k, 0)
			k.puts(swap(2, val(5), entryOf(4, 7, 0, 1, 30)))
			if ahead {
				put(t, k.a, 2, there)
			}
			k.goes(load(b, open(7)))
			put(t, k.a, 2, there)
			k.goes(swap(2, there, there))
			fill(k, 1)
			k.goes(swap(b, open(7), won(7)))
			k.goes(load(b, won(7)))
			checkBack(k, 4, 7, true, two())
		}
	}
}

// Rows 8 and 9: it is decided by another helper ahead of the swap, which then changes nothing.
func TestDecidedAheadOfRow8(t *testing.T) {
	for first, isWon := range decided() {
		k := beginTwo(t)
		fill(k, 0)
		fill(k, 1)
		put(t, k.a, b, first)
		k.goes(swap(b, first, first))
		k.goes(load(b, first))
		checkBack(k, 4, 7, isWon, two())
		checkCells(t, k.a, isWon, two(), -1, 0)
	}
}

func TestDecidedAheadOfRow9(t *testing.T) {
	for first, isWon := range decided() {
		k := beginTwo(t)
		fill(k, 0)
		put(t, k.a, 9, val(70))
		toCell(k, 1)
		k.puts(swap(9, val(70), val(70)))
		put(t, k.a, b, first)
		k.goes(swap(b, first, first))
		k.goes(load(b, first))
		checkBack(k, 4, 7, isWon, two())
		checkCells(t, k.a, isWon, two()[:1], -1, 0)
	}
}

// Row 8: with no entries it is decided by another helper ahead of the swap, too.
func TestNoEntryAndDecidedAheadOfRow8(t *testing.T) {
	for first, isWon := range decided() {
		k := begin(t, laid(t, 4, open(7)), 0, 0, me)
		k.in(4, 7)
		k.goes(load(b, open(7)))
		k.goes(load(countAt(4), val(0)))
		put(t, k.a, b, first)
		k.goes(swap(b, first, first))
		k.goes(load(b, first))
		k.ends(load(countAt(4), val(0)), isWon)
	}
}

// Row 1, behind row 8: what was swapped in vain may be open again; then all begins anew.
func TestOpenAgainBehindRow8(t *testing.T) {
	k := beginTwo(t)
	fill(k, 0)
	fill(k, 1)
	put(t, k.a, b, open(6))
	k.goes(swap(b, open(6), open(6)))
	put(t, k.a, b, open(7))
	for e, s := range two() {
		toCell(k, e)
		k.puts(swap(s.Cell, me, me))
	}
	win(k)
}

// Rows 3 to 7: what is loaded is loaded anew for each entry, and once only for each.
func TestWordsThatChangeBetween(t *testing.T) {
	k := beginTwo(t)
	toCell(k, 0)
	for at, x := range map[int]int{countAt(4): val(9), cellAt(4, 0): val(3), wasAt(4, 0): val(50)} {
		put(t, k.a, at, x)
	}
	p := entryOf(4, 7, 0, 1, 30)
	k.puts(swap(2, val(5), p))
	put(t, k.a, cellAt(4, 0), val(2))
	put(t, k.a, wasAt(4, 0), val(5))
	k.goes(load(b, open(7)))
	k.goes(swap(2, p, me))
	fill(k, 1)
	put(t, k.a, countAt(4), val(2))
	win(k)
}

// Rows 10 to 13: how many there are then counts; the cell and what it comes to are loaded anew, too.
func TestWordsThatChangeAheadOfRow10(t *testing.T) {
	k := beginTwo(t)
	fill(k, 0)
	fill(k, 1)
	k.goes(swap(b, open(7), won(7)))
	k.goes(load(b, won(7)))
	ss := []api.Swap{{Cell: 9, Was: 1, Now: 80}, {Cell: 2, Was: 1, Now: 60}, {Cell: 3, Was: 1, Now: 2}}
	lay(t, k.a, 4, won(7), ss...)
	put(t, k.a, b, lost(8))
	checkBack(k, 4, 7, true, ss)
	words := k.a.All()
	if words[9] != val(80) || words[2] != val(60) {
		t.Errorf("P14.2: cells: %d, %d", words[9], words[2])
	}
}

// Row 10: there are none any more.
func TestNoEntriesAtRow10(t *testing.T) {
	for first, isWon := range map[int]bool{won(7): true, lost(7): false, open(8): false} {
		k := begin(t, laid(t, 4, first), 0, 0, me)
		k.in(4, 7)
		k.goes(load(b, first))
		k.ends(load(countAt(4), val(0)), isWon)
	}
}

// A descriptor whose cells do not rise is none of layer 13's, but a helper takes it as it stands.
func TestCellsThatDoNotRise(t *testing.T) {
	ss := []api.Swap{{Cell: 9, Was: 7, Now: 8}, {Cell: 2, Was: 5, Now: 6}}
	k := begin(t, laid(t, 4, open(7), ss...), 2, 5, me)
	checkAlone(k, 4, 7, ss, -1)
	checkCells(t, k.a, true, ss, -1, 0)
	// The same cell twice: the second time the own reference is there.
	twice := []api.Swap{{Cell: 9, Was: 7, Now: 8}, {Cell: 9, Was: 7, Now: 6}}
	k = begin(t, laid(t, 4, open(7), twice...), 2, 5, me)
	k.in(4, 7)
	k.goes(load(b, open(7)))
	k.goes(load(countAt(4), val(2)))
	k.goes(load(cellAt(4, 0), val(9)))
	k.goes(load(wasAt(4, 0), val(7)))
	p := entryOf(4, 7, 0, 2, 5)
	k.puts(swap(9, val(7), p))
	k.goes(load(b, open(7)))
	k.goes(swap(9, p, me))
	k.goes(load(cellAt(4, 1), val(9)))
	k.goes(load(wasAt(4, 1), val(7)))
	k.puts(swap(9, me, me))
	k.goes(swap(b, open(7), won(7)))
	k.goes(load(b, won(7)))
	checkBack(k, 4, 7, true, twice)
}

// A new number is used up by each swap of row 5, whatever it finds, also by frames that are atop; all go round together.
func TestSeqIsUsedUpByEachFrame(t *testing.T) {
	a := laid(t, 4, open(7), two()...)
	lay(t, a, 10, open(3), api.Swap{Cell: 2, Was: 4, Now: 5})
	put(t, a, 2, mine(10, 3))
	k := begin(t, a, 3, mostSeq, me)
	k.in(4, 7)
	toCell(k, 0)
	k.puts(swap(2, mine(10, 3), mine(10, 3)))
	if k.h.Seq() != 0 {
		t.Errorf("P14.2: Seq behind MaxSeq: %d", k.h.Seq())
	}
	k.goes(load(b, open(7)))
	helpYou(k, 2)
	p := entryOf(4, 7, 0, 3, 1)
	k.puts(swap(2, val(5), p))
	k.goes(load(b, open(7)))
	k.goes(swap(2, p, me))
	toCell(k, 1)
	p = entryOf(4, 7, 1, 3, 2)
	k.puts(swap(9, val(7), p))
	k.goes(load(b, open(7)))
	k.goes(swap(9, p, me))
	win(k)
}

// The arena may be another one from step to step; a helper keeps nothing of it but what it loaded.
func TestArenasThatChange(t *testing.T) {
	k := beginTwo(t)
	copies := []*arena.Arena{k.a}
	toCell(k, 0)
	k.a = laid(t, 4, open(7), two()...)
	copies = append(copies, k.a)
	p := entryOf(4, 7, 0, 1, 30)
	k.puts(swap(2, val(5), p))
	k.goes(load(b, open(7)))
	k.goes(swap(2, p, me))
	fill(k, 1)
	win(k)
	checkCells(t, copies[0], false, two(), -1, 0)
}
