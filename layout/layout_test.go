package layout

import (
	"sync"
	"testing"

	"pawl/api"
	"pawl/word"
)

const (
	leastInt = -1 << 63
	mostInt  = 1<<63 - 1
	mostGen  = 65535
)

func TestPlacesByHand(t *testing.T) {
	for _, c := range []struct {
		name      string
		got, want int
	}{
		{"FirstAt(0)", FirstAt(0), 34}, {"CountAt(0)", CountAt(0), 35},
		{"CellAt(0, 0)", CellAt(0, 0), 36}, {"WasAt(0, 0)", WasAt(0, 0), 37}, {"NowAt(0, 0)", NowAt(0, 0), 38},
		{"CellAt(0, 1)", CellAt(0, 1), 39}, {"NowAt(0, 15)", NowAt(0, 15), 83},
		{"FirstAt(1)", FirstAt(1), 84}, {"CountAt(1)", CountAt(1), 85}, {"WasAt(1, 2)", WasAt(1, 2), 93},
		{"FirstAt(11)", FirstAt(11), 584}, {"CountAt(11)", CountAt(11), 585},
		{"CellAt(11, 15)", CellAt(11, 15), 631}, {"WasAt(11, 15)", WasAt(11, 15), 632}, {"NowAt(11, 15)", NowAt(11, 15), 633},
	} {
		if c.got != c.want {
			t.Errorf("P13: %s: %d, want %d", c.name, c.got, c.want)
		}
	}
}

// In their row the places go from DescAt to the arena's end, each of them once.
func TestPlacesInTheirRow(t *testing.T) {
	next := 34
	check := func(at int) {
		t.Helper()
		if at != next {
			t.Fatalf("P13: the place %d, want %d", at, next)
		}
		next++
	}
	for slot := range 12 {
		check(FirstAt(slot))
		check(CountAt(slot))
		for entry := range 16 {
			check(CellAt(slot, entry))
			check(WasAt(slot, entry))
			check(NowAt(slot, entry))
		}
	}
	if next != 634 {
		t.Errorf("P13: the place behind the last descriptor: %d", next)
	}
}

// checkFirst looks what GetFirst tells of x.
func checkFirst(t *testing.T, x int, want int, wantDecision int, wantIs bool) {
	t.Helper()
	if gen, decision, is := GetFirst(x); gen != want || decision != wantDecision || is != wantIs {
		t.Errorf("P13: GetFirst(%d): %d, %d, %v, want %d, %d, %v", x, gen, decision, is, want, wantDecision, wantIs)
	}
}

func TestFirstWordsByHand(t *testing.T) {
	for _, c := range []struct{ gen, decision, want int }{
		{0, 0, 0}, {0, 1, 4}, {0, 2, 8}, {1, 0, 16}, {1, 1, 20}, {1, 2, 24}, {2, 0, 32}, {300, 2, 4808},
		{mostGen, 0, 1048560}, {mostGen, 1, 1048564}, {mostGen, 2, 1048568},
	} {
		if x := PutFirst(c.gen, c.decision); x != c.want {
			t.Errorf("P13: PutFirst(%d, %d): %d, want %d", c.gen, c.decision, x, c.want)
		}
		checkFirst(t, c.want, c.gen, c.decision, true)
	}
}

func TestEachFirstWord(t *testing.T) {
	for gen := range mostGen + 1 {
		for decision := range 3 {
			x := PutFirst(gen, decision)
			if x != 16*gen+4*decision {
				t.Fatalf("P13: PutFirst(%d, %d): %d", gen, decision, x)
			}
			checkFirst(t, x, gen, decision, true)
		}
		// The value of a decision that is none, and the words of other kinds beside.
		for _, x := range []int{16*gen + 12, 16*gen + 1, 16*gen + 2, 16*gen + 3, 16*gen + 13} {
			checkFirst(t, x, 0, 0, false)
		}
	}
}

func TestNoFirstWords(t *testing.T) {
	for _, w := range []api.Word{
		{Kind: api.WordMcas}, {Kind: api.WordMcas, Slot: 11, Gen: mostGen}, {Kind: api.WordEntry}, {Kind: api.WordEntry, Slot: 2, Gen: 1, Entry: 3, Thread: 3, Seq: 9},
	} {
		x, e := word.Put(w)
		if e != api.OK {
			t.Fatalf("P1.1: %+v: error %d", w, e)
		}
		checkFirst(t, x, 0, 0, false)
	}
	for _, x := range []int{
		leastInt, leastInt + 4, leastInt + 16, -1 << 32, -16, -12, -8, -4, -1,
		16*mostGen + 12, 16 * (mostGen + 1), 16*(mostGen+1) + 4, 16*(mostGen+1) + 8, 16 * (mostGen + 2), 16 << 32, 16<<32 + 4, 4 * api.MaxValue, 1 << 62, mostInt - 3, mostInt,
	} {
		checkFirst(t, x, 0, 0, false)
	}
}

func TestFromSeveralGoroutines(t *testing.T) {
	var wg sync.WaitGroup
	for n := range 3 {
		wg.Go(func() {
			for gen := range 100 {
				checkFirst(t, PutFirst(gen, n), gen, n, true)
				checkFirst(t, PutFirst(gen, n)+1, 0, 0, false)
			}
		})
	}
	wg.Wait()
}
