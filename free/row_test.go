package free_test

import (
	"slices"
	"testing"

	"pawl/api"
	"pawl/arena"
	"pawl/free"
)

func TestRowAsAnArenaStarts(t *testing.T) {
	checkRow(t, arena.New(), 0, 1, 2, 3, 4, 5, 6, 7, 8, 9, 10, 11)
}

func TestRowOfEachRow(t *testing.T) {
	for _, count := range []int{0, 1, 1 << 29, mostCount} {
		for _, slots := range rests() {
			checkRow(t, laid(t, count, slots...), slots...)
		}
	}
}

func TestRowsThatAreDrawn(t *testing.T) {
	r := draw(3)
	for range 500 {
		slots := []int{0, 1, 2, 3, 4, 5, 6, 7, 8, 9, 10, 11}
		for i := range slots {
			j := r.next(i + 1)
			slots[i], slots[j] = slots[j], slots[i]
		}
		slots = slots[:r.next(13)]
		checkRow(t, laid(t, r.next(1<<20), slots...), slots...)
	}
}

func TestRowsThatLeadBack(t *testing.T) {
	for _, slots := range rests()[1:] {
		for _, to := range slots {
			a := laid(t, 4, slots...)
			put(t, a, nextAt+slots[len(slots)-1], linkWord(to+1))
			checkNoRow(t, a)
		}
	}
}

// With all slots in the row the last one must lead to none.
func TestRowsOfMoreThanAllSlots(t *testing.T) {
	all := rests()[len(rests())-1]
	for slot := range 12 {
		a := laid(t, 4, all...)
		checkRow(t, a, all...)
		put(t, a, nextAt+all[11], linkWord(slot+1))
		checkNoRow(t, a)
	}
}

func TestRowOfHeadsThatAreNone(t *testing.T) {
	for _, x := range noHeads(t) {
		a := laid(t, 4, 3, 7, 1)
		put(t, a, headAt, x)
		checkNoRow(t, a)
		a = arena.New()
		put(t, a, headAt, x)
		checkNoRow(t, a)
	}
}

func TestRowOfLinksThatAreNone(t *testing.T) {
	for _, slots := range rests()[1:] {
		for _, slot := range slots {
			for _, x := range noLinks(t) {
				a := laid(t, 4, slots...)
				put(t, a, nextAt+slot, x)
				checkNoRow(t, a)
			}
		}
	}
}

func TestRowOfLinksThatAreNotReached(t *testing.T) {
	for _, slots := range rests() {
		for _, x := range noLinks(t) {
			a := laid(t, 4, slots...)
			for slot := range 12 {
				if !slices.Contains(slots, slot) {
					put(t, a, nextAt+slot, x)
				}
			}
			checkRow(t, a, slots...)
		}
	}
}

// What stands ahead of the row's places, and behind them, is none of its own.
func TestRowLooksAtItsOwnPlaces(t *testing.T) {
	a := arena.New()
	for at := range 634 {
		if at < 16 || at > 28 {
			put(t, a, at, -1)
		}
	}
	checkRow(t, a, 0, 1, 2, 3, 4, 5, 6, 7, 8, 9, 10, 11)
	checkPop(t, a, 0, 0, 2)
	checkPush(t, a, 1, 0, 2)
}

func TestRowOfNoArena(t *testing.T) {
	for range 2 {
		if got, e := free.Row(nil); len(got) != 0 || e != api.ErrNil {
			t.Errorf("P10.3: Row without an arena: %v, error %d", got, e)
		}
	}
}

// An answer of Row, or a refusal, leaves the arena as it was: its words, and its last access.
func TestRowChangesNothing(t *testing.T) {
	broken := laid(t, 4, 3, 7, 1)
	put(t, broken, nextAt+1, 3)
	for _, a := range []*arena.Arena{arena.New(), laid(t, 4, 3, 7, 1), laid(t, 4), broken} {
		words := a.All()
		touch, is := a.Last()
		free.Row(a)
		free.Row(a)
		if got, gotIs := a.Last(); got != touch || gotIs != is || !slices.Equal(a.All(), words) {
			t.Errorf("R4: Row changed an arena: %+v, %v, want %+v, %v", got, gotIs, touch, is)
		}
	}
}

func TestRowIsItsOwnMemory(t *testing.T) {
	a := laid(t, 4, 3, 7, 1)
	one, _ := free.Row(a)
	two, _ := free.Row(a)
	for i := range one {
		one[i] = -5
	}
	_ = append(one[:1], -6, -7, -8)
	if !slices.Equal(two, []int{3, 7, 1}) {
		t.Errorf("R4: two answers of Row share memory: %v", two)
	}
	checkRow(t, a, 3, 7, 1)
	pop(t, a)
	if !slices.Equal(two, []int{3, 7, 1}) {
		t.Errorf("R4: a pop is seen in an earlier answer of Row: %v", two)
	}
}
