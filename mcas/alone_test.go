package mcas_test

import (
	"testing"

	"pawl/api"
	"pawl/arena"
)

// checkAlone looks at all steps of a helper alone of an open descriptor, whose cells hold what was, but for that of one entry (-1: none), which holds another value.
func checkAlone(k *track, slot int, gen int, ss []api.Swap, differs int) {
	k.t.Helper()
	words, seq := k.a.All(), k.seq
	k.in(slot, gen)
	k.goes(load(firstAt(slot), open(gen)))
	k.goes(load(countAt(slot), val(len(ss))))
	for e, s := range ss {
		k.goes(load(cellAt(slot, e), val(s.Cell)))
		k.goes(load(wasAt(slot, e), val(s.Was)))
		if e == differs {
			k.puts(swap(s.Cell, words[s.Cell], words[s.Cell]))
			break
		}
		p := entryOf(slot, gen, e, k.thread, (seq+e)%(mostSeq+1))
		k.puts(swap(s.Cell, val(s.Was), p))
		k.goes(load(firstAt(slot), open(gen)))
		k.goes(swap(s.Cell, p, mine(slot, gen)))
	}
	decision := won(gen)
	if differs >= 0 {
		decision = lost(gen)
	}
	k.goes(swap(firstAt(slot), open(gen), decision))
	k.goes(load(firstAt(slot), decision))
	checkBack(k, slot, gen, differs < 0, ss)
}

// checkBack looks at the steps from row 10 on, whether the cells hold the descriptor's reference or not.
func checkBack(k *track, slot int, gen int, isWon bool, ss []api.Swap) {
	k.t.Helper()
	k.in(slot, gen)
	if len(ss) == 0 {
		k.ends(load(countAt(slot), val(0)), isWon)
		return
	}
	k.goes(load(countAt(slot), val(len(ss))))
	for e, s := range ss {
		k.goes(load(cellAt(slot, e), val(s.Cell)))
		then := val(s.Was)
		if isWon {
			then = val(s.Now)
			k.goes(load(nowAt(slot, e), then))
		} else {
			k.goes(load(wasAt(slot, e), then))
		}
		there := k.a.All()[s.Cell]
		want := swap(s.Cell, there, there)
		if there == mine(slot, gen) {
			want.Now = then
		}
		if e == len(ss)-1 {
			k.ends(want, isWon)
		} else {
			k.goes(want)
		}
	}
}

// checkCells looks what the cells of entries hold: what is to be, or what was, but for that of the one that differs.
func checkCells(t *testing.T, a *arena.Arena, isWon bool, ss []api.Swap, differs int, other int) {
	t.Helper()
	words := a.All()
	for e, s := range ss {
		want := val(s.Was)
		if isWon {
			want = val(s.Now)
		}
		if e == differs {
			want = other
		}
		if words[s.Cell] != want {
			t.Fatalf("P14.4: cell %d: %d, want %d", s.Cell, words[s.Cell], want)
		}
	}
}

// entries are rows that may be: none, one, some, and as many as may be.
func entries() [][]api.Swap {
	return [][]api.Swap{
		nil,
		{{Cell: 0, Was: 0, Now: 0}},
		{{Cell: 0, Was: 0, Now: 1}},
		{{Cell: 15, Was: mostValue, Now: mostValue - 1}},
		{{Cell: 7, Was: mostValue, Now: mostValue}},
		{{Cell: 3, Was: 0, Now: mostValue}, {Cell: 4, Was: 1, Now: 1}},
		{{Cell: 0, Was: 9, Now: 8}, {Cell: 15, Was: 7, Now: 6}},
		{{Cell: 1, Was: 11, Now: 21}, {Cell: 6, Was: 12, Now: 22}, {Cell: 14, Was: 13, Now: 23}},
		full()[1:],
		full()[:15],
		full(),
	}
}

// All numbers here are worked out by hand.
func TestOneEntryByHand(t *testing.T) {
	a := arena.New()
	for at, x := range map[int]int{3: 20, 34: 0, 35: 4, 36: 12, 37: 20, 38: 24} {
		put(t, a, at, x)
	}
	k := begin(t, a, 1, 9, 2)
	k.in(0, 0)
	k.goes(api.Touch{Kind: 0, At: 34, Was: 0, Now: 0})
	k.goes(api.Touch{Kind: 0, At: 35, Was: 4, Now: 4})
	k.goes(api.Touch{Kind: 0, At: 36, Was: 12, Now: 12})
	k.goes(api.Touch{Kind: 0, At: 37, Was: 20, Now: 20})
	k.puts(api.Touch{Kind: 2, At: 3, Was: 20, Now: 4194341})
	k.goes(api.Touch{Kind: 0, At: 34, Was: 0, Now: 0})
	k.goes(api.Touch{Kind: 2, At: 3, Was: 4194341, Now: 2})
	k.goes(api.Touch{Kind: 2, At: 34, Was: 0, Now: 4})
	k.goes(api.Touch{Kind: 0, At: 34, Was: 4, Now: 4})
	k.goes(api.Touch{Kind: 0, At: 35, Was: 4, Now: 4})
	k.goes(api.Touch{Kind: 0, At: 36, Was: 12, Now: 12})
	k.goes(api.Touch{Kind: 0, At: 38, Was: 24, Now: 24})
	k.ends(api.Touch{Kind: 2, At: 3, Was: 2, Now: 24}, true)
	if k.h.Seq() != 10 {
		t.Errorf("P14.2: Seq: %d", k.h.Seq())
	}
}

func TestOneEntryThatDiffersByHand(t *testing.T) {
	a := arena.New()
	for at, x := range map[int]int{3: 24, 34: 0, 35: 4, 36: 12, 37: 20, 38: 24} {
		put(t, a, at, x)
	}
	k := begin(t, a, 1, 9, 2)
	k.in(0, 0)
	k.goes(api.Touch{Kind: 0, At: 34, Was: 0, Now: 0})
	k.goes(api.Touch{Kind: 0, At: 35, Was: 4, Now: 4})
	k.goes(api.Touch{Kind: 0, At: 36, Was: 12, Now: 12})
	k.goes(api.Touch{Kind: 0, At: 37, Was: 20, Now: 20})
	k.puts(api.Touch{Kind: 2, At: 3, Was: 24, Now: 24})
	k.goes(api.Touch{Kind: 2, At: 34, Was: 0, Now: 8})
	k.goes(api.Touch{Kind: 0, At: 34, Was: 8, Now: 8})
	k.goes(api.Touch{Kind: 0, At: 35, Was: 4, Now: 4})
	k.goes(api.Touch{Kind: 0, At: 36, Was: 12, Now: 12})
	k.goes(api.Touch{Kind: 0, At: 37, Was: 20, Now: 20})
	k.ends(api.Touch{Kind: 2, At: 3, Was: 24, Now: 24}, false)
	if k.h.Seq() != 10 {
		t.Errorf("P14.2: Seq: %d", k.h.Seq())
	}
}

func TestNoEntryByHand(t *testing.T) {
	k := begin(t, arena.New(), 0, 0, 4*11+2)
	k.in(11, 0)
	k.goes(api.Touch{Kind: 0, At: 584})
	k.goes(api.Touch{Kind: 0, At: 585})
	k.goes(api.Touch{Kind: 2, At: 584, Was: 0, Now: 4})
	k.goes(api.Touch{Kind: 0, At: 584, Was: 4, Now: 4})
	k.ends(api.Touch{Kind: 0, At: 585}, true)
}

func TestAloneOfWhatHoldsWhatWas(t *testing.T) {
	for i, ss := range entries() {
		for _, slot := range []int{0, 5, 11} {
			for _, gen := range []int{0, 1, 300, mostGen} {
				a := laid(t, slot, open(gen), ss...)
				k := begin(t, a, i%4, 100*i, mine(slot, gen))
				checkAlone(k, slot, gen, ss, -1)
				checkCells(t, a, true, ss, -1, 0)
			}
		}
	}
}

func TestAloneOfOneThatDiffers(t *testing.T) {
	for i, ss := range entries() {
		for differs, s := range ss {
			for _, other := range []int{val(s.Was ^ 1), val(s.Was ^ 1<<39), val(s.Now ^ 5<<20)} {
				slot, gen := (i+differs)%12, 7*i
				a := laid(t, slot, open(gen), ss...)
				put(t, a, s.Cell, other)
				k := begin(t, a, differs%4, mostSeq-20, mine(slot, gen))
				checkAlone(k, slot, gen, ss, differs)
				checkCells(t, a, false, ss, differs, other)
			}
		}
	}
}

// Also what is to be is another value than what was.
func TestAloneOfOneThatHoldsWhatIsToBe(t *testing.T) {
	ss := full()
	for differs, s := range ss {
		a := laid(t, 4, open(9), ss...)
		put(t, a, s.Cell, val(s.Now))
		checkAlone(begin(t, a, 3, 0, mine(4, 9)), 4, 9, ss, differs)
	}
}

func TestAloneOfEachThread(t *testing.T) {
	for thread := range 4 {
		for slot := range 12 {
			checkAlone(begin(t, laid(t, slot, open(slot), full()...), thread, 1, mine(slot, slot)), slot, slot, full(), -1)
		}
	}
}

func TestSeqGoesRound(t *testing.T) {
	for ahead := range 18 {
		k := begin(t, laid(t, 2, open(3), full()...), 1, mostSeq-ahead, mine(2, 3))
		checkAlone(k, 2, 3, full(), -1)
		if want := (mostSeq - ahead + 16) % (mostSeq + 1); k.h.Seq() != want {
			t.Errorf("P14.2: Seq behind 16 of %d: %d, want %d", mostSeq-ahead, k.h.Seq(), want)
		}
	}
}

// A descriptor that is decided already is taken out of its cells, whichever of them hold its reference.
func TestAloneOfWhatIsDecided(t *testing.T) {
	for i, ss := range entries() {
		for _, isWon := range []bool{true, false} {
			for held := range len(ss) + 1 {
				slot, gen := i, 1000*i
				first := lost(gen)
				if isWon {
					first = won(gen)
				}
				a := laid(t, slot, first, ss...)
				for _, s := range ss[:held] {
					put(t, a, s.Cell, mine(slot, gen))
				}
				k := begin(t, a, 2, 50, mine(slot, gen))
				k.in(slot, gen)
				k.goes(load(firstAt(slot), first))
				checkBack(k, slot, gen, isWon, ss)
				checkTaken(t, a, isWon, ss, held)
			}
		}
	}
}

// checkTaken looks that the cells that held the reference have come to what they must, and the others are as they were.
func checkTaken(t *testing.T, a *arena.Arena, isWon bool, ss []api.Swap, held int) {
	t.Helper()
	checkCells(t, a, isWon, ss[:held], -1, 0)
	checkCells(t, a, false, ss[held:], -1, 0)
}

// A first word of another life, or a value that is none of a first word, is as one that was lost; its entries are none that may be taken for won.
func TestAloneOfAnotherLife(t *testing.T) {
	ss := full()[3:9]
	for _, gen := range []int{1, 300, mostGen} {
		for _, first := range []int{
			open(gen - 1), won(gen - 1), lost(gen - 1), open(gen + 1), won(gen + 1), lost(gen + 1), open(0), won(0),
			open(gen) + 12, open(mostGen + 1), won(mostGen + 1), val(mostValue), open(gen) + 16<<20, won(gen) + 4<<32,
		} {
			a := laid(t, 6, first, ss...)
			for _, s := range ss[:3] {
				put(t, a, s.Cell, mine(6, gen))
			}
			k := begin(t, a, 2, 50, mine(6, gen))
			k.in(6, gen)
			k.goes(load(firstAt(6), first))
			checkBack(k, 6, gen, false, ss)
			checkTaken(t, a, false, ss, 3)
			if x := a.All()[firstAt(6)]; x != first {
				t.Errorf("P14.2: the first word of another life: %d, want %d", x, first)
			}
		}
	}
}

// Two descriptors one behind the other: what the first one left is what was of the second.
func TestOneBehindTheOther(t *testing.T) {
	a := laid(t, 1, open(1), api.Swap{Cell: 2, Was: 5, Now: 6}, api.Swap{Cell: 3, Was: 7, Now: 8})
	lay(t, a, 2, open(4), api.Swap{Cell: 2, Was: 6, Now: 9}, api.Swap{Cell: 3, Was: 8, Now: 7})
	lay(t, a, 3, open(4), api.Swap{Cell: 3, Was: 8, Now: 1})
	finish(t, newHelp(t, 0, 0, mine(1, 1)), a, 30)
	checkAlone(begin(t, a, 0, 2, mine(2, 4)), 2, 4, []api.Swap{{Cell: 2, Was: 6, Now: 9}, {Cell: 3, Was: 8, Now: 7}}, -1)
	checkAlone(begin(t, a, 0, 4, mine(3, 4)), 3, 4, []api.Swap{{Cell: 3, Was: 8, Now: 1}}, 0)
	if words := a.All(); words[2] != val(9) || words[3] != val(7) {
		t.Errorf("P14.4: cells: %d, %d", words[2], words[3])
	}
}
