package mcas_test

import (
	"testing"

	"pawl/api"
	"pawl/arena"
)

// ring is an arena with two open descriptors, of slots 0 and 1 in their life 1, each of which wants a cell that the other one has: no writer and helpers come to that, but it has no end.
func ring(t *testing.T) *arena.Arena {
	t.Helper()
	a := dirty(t)
	for slot := range 2 {
		lay(t, a, slot, open(1), api.Swap{Cell: slot, Was: 5, Now: 6})
		put(t, a, slot, mine(1-slot, 1))
	}
	return a
}

// downTo is a helper with so many frames, the last of which has found another descriptor: it is ahead of row 14.
func downTo(t *testing.T, depth int) *track {
	t.Helper()
	k := begin(t, ring(t), 2, 0, mine(0, 1))
	for n := range depth {
		slot := n % 2
		if n > 0 {
			k.goes(load(firstAt(1-slot), open(1)))
		}
		k.in(slot, 1)
		k.goes(load(firstAt(slot), open(1)))
		k.goes(load(countAt(slot), val(1)))
		k.goes(load(cellAt(slot, 0), val(slot)))
		k.goes(load(wasAt(slot, 0), val(5)))
		k.puts(swap(slot, mine(1-slot, 1), mine(1-slot, 1)))
		if k.h.Depth() != n+1 {
			t.Fatalf("P14.2: %d frames, want %d", k.h.Depth(), n+1)
		}
	}
	return k
}

func TestOneDescriptorMoreThanMaxDepth(t *testing.T) {
	k := downTo(t, mostDepth)
	k.fails(load(firstAt(1), open(1)), false)
}

// The 18th frame may have none atop, but goes on if it finds that it is decided, and so do those beneath.
func TestMaxDepthOfDescriptors(t *testing.T) {
	for depth := 1; depth <= mostDepth; depth++ {
		k := downTo(t, depth)
		put(t, k.a, firstAt(0), won(1))
		put(t, k.a, firstAt(1), won(1))
		for n := depth - 1; n > 0; n-- {
			k.goes(backOut(k, n%2))
			// Beneath the other descriptor is there once more.
			k.in(1-n%2, 1)
			k.puts(swap(1-n%2, mine(n%2, 1), mine(n%2, 1)))
		}
		k.ends(backOut(k, 0), true)
	}
}

// backOut does the rows from 14 on of a frame of the ring that is won, and tells the last access, which finds the cell without its reference.
func backOut(k *track, slot int) api.Touch {
	k.t.Helper()
	k.in(slot, 1)
	k.goes(load(firstAt(slot), won(1)))
	k.goes(load(countAt(slot), val(1)))
	k.goes(load(cellAt(slot, 0), val(slot)))
	k.goes(load(nowAt(slot, 0), val(6)))
	return swap(slot, mine(1-slot, 1), mine(1-slot, 1))
}

// toRow5 does row 14 of a frame of the ring, and rows 1 to 4 of the one atop, which is of that slot.
func toRow5(k *track, slot int) {
	k.t.Helper()
	k.goes(load(firstAt(1-slot), open(1)))
	k.in(slot, 1)
	k.goes(load(firstAt(slot), open(1)))
	k.goes(load(countAt(slot), val(1)))
	k.goes(load(cellAt(slot, 0), val(slot)))
	k.goes(load(wasAt(slot, 0), val(5)))
}

// The 18th frame may be that of a reference to an entry, too.
func TestMaxDepthOfAReferenceToAnEntry(t *testing.T) {
	k := downTo(t, mostDepth-2)
	toRow5(k, 0)
	ref := entryOf(7, 7, 3, 1, 9)
	put(t, k.a, 0, ref)
	lay(t, k.a, 7, won(7), make([]api.Swap, 4)...)
	k.puts(swap(0, ref, ref))
	k.in(7, 7)
	k.goes(load(cellAt(7, 3), val(0)))
	k.goes(load(wasAt(7, 3), val(0)))
	k.goes(load(firstAt(7), won(7)))
	k.goes(swap(0, ref, val(0)))
	k.in(0, 1)
	k.puts(swap(0, val(0), val(0)))
	k.goes(swap(firstAt(0), open(1), lost(1)))
}

func TestOneReferenceToAnEntryMoreThanMaxDepth(t *testing.T) {
	k := downTo(t, mostDepth-1)
	toRow5(k, 1)
	ref := entryOf(7, 7, 3, 1, 9)
	put(t, k.a, 1, ref)
	k.putsAndFails(swap(1, ref, ref))
}

// chain is an arena in which each descriptor but the last, of slots 0 to 11, finds the next one in its second cell; all are open.
func chain(t *testing.T) (*arena.Arena, [][]api.Swap) {
	t.Helper()
	a := dirty(t)
	rows := make([][]api.Swap, 12)
	for slot := range rows {
		rows[slot] = []api.Swap{{Cell: slot, Was: slot, Now: 100 + slot}, {Cell: slot + 1, Was: 101 + slot, Now: 200 + slot}}
		lay(t, a, slot, open(slot), rows[slot]...)
		put(t, a, slot, mine(slot, slot))
	}
	put(t, a, 12, val(112))
	return a, rows
}

// Frames go atop of one another as far as the descriptors lead, and each is won as the one atop leaves what it looks for.
func TestDescriptorsInAChain(t *testing.T) {
	a, rows := chain(t)
	k := begin(t, a, 3, mostSeq-5, mine(0, 0))
	for slot := range 12 {
		chainDown(k, slot, rows[slot])
	}
	for slot := 11; slot >= 0; slot-- {
		chainBack(k, slot, rows[slot])
	}
	for slot := range 12 {
		want := 200 + slot - 1
		if slot == 0 {
			want = 100
		}
		if x := a.All()[slot]; x != val(want) {
			t.Errorf("P14.4: cell %d: %d, want %d", slot, x, val(want))
		}
	}
}

// chainDown does the rows of a frame of the chain up to the one of the next slot, or up to row 5 of its second entry.
func chainDown(k *track, slot int, ss []api.Swap) {
	k.t.Helper()
	k.in(slot, slot)
	k.goes(load(firstAt(slot), open(slot)))
	k.goes(load(countAt(slot), val(2)))
	k.goes(load(cellAt(slot, 0), val(slot)))
	k.goes(load(wasAt(slot, 0), val(ss[0].Was)))
	k.puts(swap(slot, mine(slot, slot), mine(slot, slot)))
	k.goes(load(cellAt(slot, 1), val(slot+1)))
	k.goes(load(wasAt(slot, 1), val(ss[1].Was)))
	if slot < 11 {
		next := mine(slot+1, slot+1)
		k.puts(swap(slot+1, next, next))
		k.goes(load(firstAt(slot), open(slot)))
	}
}

// chainBack does those that follow, once the second cell holds what was.
func chainBack(k *track, slot int, ss []api.Swap) {
	k.t.Helper()
	k.in(slot, slot)
	p := entryOf(slot, slot, 1, 3, k.seq)
	k.puts(swap(slot+1, val(ss[1].Was), p))
	k.goes(load(firstAt(slot), open(slot)))
	k.goes(swap(slot+1, p, mine(slot, slot)))
	k.goes(swap(firstAt(slot), open(slot), won(slot)))
	k.goes(load(firstAt(slot), won(slot)))
	k.goes(load(countAt(slot), val(2)))
	k.goes(load(cellAt(slot, 0), val(slot)))
	k.goes(load(nowAt(slot, 0), val(ss[0].Now)))
	k.goes(swap(slot, mine(slot, slot), val(ss[0].Now)))
	k.goes(load(cellAt(slot, 1), val(slot+1)))
	k.goes(load(nowAt(slot, 1), val(ss[1].Now)))
	last := swap(slot+1, mine(slot, slot), val(ss[1].Now))
	if slot == 0 {
		k.ends(last, true)
	} else {
		k.goes(last)
	}
}
