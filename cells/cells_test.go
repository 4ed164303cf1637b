package cells

import (
	"slices"
	"sync"
	"testing"

	"pawl/api"
)

const (
	leastInt  = -1 << 63
	mostInt   = 1<<63 - 1
	mostValue = 1099511627775
)

// linked is a link with its cell, worked out by hand.
type linked struct {
	key, level, cell int
}

func allLinked() []linked {
	return []linked{
		{-1, 0, 4}, {-1, 1, 5},
		{0, 0, 6}, {0, 1, 7},
		{1, 0, 8}, {1, 1, 9},
		{2, 0, 10}, {2, 1, 11},
		{3, 0, 12}, {3, 1, 13},
		{4, 0, 14}, {4, 1, 15},
	}
}

// farNumbers are wrong far from any edge; some are small again in fewer bits, or when they are doubled.
func farNumbers() []int {
	return []int{
		leastInt, leastInt + 1, leastInt / 2, -1 << 32, -1 << 16, -256, -100, -16, -7,
		16, 17, 100, 256, 257, 1 << 16, 1 << 32, 1<<32 + 1, 1 << 62, 1<<62 + 1, mostInt/2 + 1, mostInt - 1, mostInt,
	}
}

// checkCell looks that an answer is this cell.
func checkCell(t *testing.T, what string, want int, got int, e api.Errno) {
	t.Helper()
	if got != want || e != api.OK {
		t.Errorf("P4.1: %s: cell %d, error %d, want %d", what, got, e, want)
	}
}

// checkNoAccount looks that k is refused.
func checkNoAccount(t *testing.T, k int) {
	t.Helper()
	if got, e := Account(k); got != 0 || e != api.ErrCellsForm {
		t.Errorf("P4.1: Account(%d), which is none: cell %d, error %d", k, got, e)
	}
}

// checkNoLink looks that a link is refused.
func checkNoLink(t *testing.T, key int, level int) {
	t.Helper()
	if got, e := Link(key, level); got != 0 || e != api.ErrCellsForm {
		t.Errorf("P4.1: Link(%d, %d), which is none: cell %d, error %d", key, level, got, e)
	}
}

func TestEachAccountsCell(t *testing.T) {
	for k, want := range []int{0, 1, 2, 3} {
		got, e := Account(k)
		checkCell(t, "account", want, got, e)
	}
}

func TestAccountsThatAreNone(t *testing.T) {
	for _, k := range append(farNumbers(), -2, -1, 4, 5, 6) {
		checkNoAccount(t, k)
	}
}

func TestEachLinksCell(t *testing.T) {
	for _, l := range allLinked() {
		got, e := Link(l.key, l.level)
		checkCell(t, "link", l.cell, got, e)
	}
}

func TestKeysThatAreNone(t *testing.T) {
	for _, key := range append(farNumbers(), -4, -3, -2, 5, 6, 7) {
		for _, level := range []int{0, 1} {
			checkNoLink(t, key, level)
		}
	}
}

func TestLevelsThatAreNone(t *testing.T) {
	for _, level := range append(farNumbers(), -3, -2, -1, 2, 3, 4) {
		for _, key := range []int{-1, 0, 1, 2, 3, 4} {
			checkNoLink(t, key, level)
		}
	}
}

// What is wrong twice must not come out as a cell again.
func TestLinksThatAreNoneInBoth(t *testing.T) {
	for _, key := range append(farNumbers(), -2, 5) {
		for _, level := range append(farNumbers(), -1, 2) {
			checkNoLink(t, key, level)
		}
	}
}

func TestEachCellIsOfJustOne(t *testing.T) {
	owners := make([]int, api.Cells)
	note := func(cell int, e api.Errno) {
		if e != api.OK || cell < 0 || cell >= api.Cells {
			t.Errorf("P4.1: cell %d, error %d", cell, e)
			return
		}
		owners[cell]++
	}
	for k := range api.Accounts {
		note(Account(k))
	}
	for _, l := range allLinked() {
		note(Link(l.key, l.level))
	}
	for cell, n := range owners {
		if n != 1 {
			t.Errorf("P4.1: cell %d is of %d", cell, n)
		}
	}
}

// rising are sixteen numbers that may be, each another one.
func rising() []int {
	xs := make([]int, 16)
	for i := range xs {
		xs[i] = 1000 + 7*i
	}
	return xs
}

// repeated is x sixteen times.
func repeated(x int) []int {
	return slices.Repeat([]int{x}, 16)
}

// with is xs, but with x at one place.
func with(xs []int, at int, x int) []int {
	ys := slices.Clone(xs)
	ys[at] = x
	return ys
}

// checkFull looks that of xs there is a full view, which tells them.
func checkFull(t *testing.T, xs []int) {
	t.Helper()
	v, e := Full(xs...)
	if e != api.OK {
		t.Errorf("P4.2: Full(%v): error %d", xs, e)
		return
	}
	checkView(t, v, xs)
}

// checkView looks that all of v is known, and is xs.
func checkView(t *testing.T, v api.View, xs []int) {
	t.Helper()
	for cell := range 16 {
		if !v.Known[cell] || v.Was[cell] != xs[cell] || v.Now[cell] != xs[cell] {
			t.Errorf("P4.2: cell %d of %v: known %v, was %d, now %d", cell, xs, v.Known[cell], v.Was[cell], v.Now[cell])
		}
	}
}

// checkNoFull looks that xs are refused.
func checkNoFull(t *testing.T, xs []int) {
	t.Helper()
	if v, e := Full(xs...); v != (api.View{}) || e != api.ErrCellsForm {
		t.Errorf("P4.2: Full(%v), which may not be: %+v, error %d", xs, v, e)
	}
}

func TestFullTellsEachNumber(t *testing.T) {
	checkFull(t, rising())
	falling := rising()
	slices.Reverse(falling)
	checkFull(t, falling)
	for _, x := range []int{0, 1, 7, 1048576, 1 << 32, mostValue - 1, mostValue} {
		checkFull(t, repeated(x))
	}
}

func TestFullAtEachPlacesEdges(t *testing.T) {
	for at := range 16 {
		for _, rest := range [][]int{rising(), repeated(0), repeated(mostValue)} {
			for _, x := range []int{0, 1, mostValue - 1, mostValue} {
				checkFull(t, with(rest, at, x))
			}
			for _, x := range []int{-1, mostValue + 1} {
				checkNoFull(t, with(rest, at, x))
			}
		}
	}
}

func TestFullOfNumbersFarOff(t *testing.T) {
	for _, x := range []int{leastInt, leastInt + 1, -1 << 40, -1 << 32, -mostValue, -2, mostValue + 2, 1 << 41, 1 << 62, mostInt - 1, mostInt} {
		for at := range 16 {
			checkNoFull(t, with(rising(), at, x))
		}
		checkNoFull(t, repeated(x))
	}
}

func TestFullOfTooFewOrTooMany(t *testing.T) {
	checkNoFull(t, nil)
	checkNoFull(t, []int{})
	for _, n := range []int{1, 2, 4, 8, 12, 14, 15, 17, 18, 20, 31, 32, 48, 256 + 16, 65536 + 16} {
		for _, x := range []int{0, 5, mostValue, -1, mostValue + 1} {
			checkNoFull(t, slices.Repeat([]int{x}, n))
		}
	}
	checkNoFull(t, rising()[:15])
	checkNoFull(t, append(rising(), 0))
}

func TestFullOfNumbersOneByOne(t *testing.T) {
	v, e := Full(1, 2, 3, 4, 5, 6, 7, 8, 9, 10, 11, 12, 13, 14, 15, 16)
	if e != api.OK {
		t.Fatalf("P4.2: error %d", e)
	}
	checkView(t, v, []int{1, 2, 3, 4, 5, 6, 7, 8, 9, 10, 11, 12, 13, 14, 15, 16})
	if v, e := Full(); v != (api.View{}) || e != api.ErrCellsForm {
		t.Errorf("P4.2: Full of no numbers: %+v, error %d", v, e)
	}
}

// Neither the numbers nor the spare room behind them are touched, or read, whether they are refused or not.
func TestFullLeavesWhatIsHandedIn(t *testing.T) {
	room := append(rising(), -5, -6, -7, -8)
	was := slices.Clone(room)
	checkFull(t, room[:16])
	checkNoFull(t, room[:15])
	checkNoFull(t, room[:17])
	checkNoFull(t, room)
	if !slices.Equal(room, was) {
		t.Errorf("R4: what was handed in is %v, and was %v", room, was)
	}
}

func TestViewIsItsOwnMemory(t *testing.T) {
	xs := rising()
	one, e := Full(xs...)
	two, f := Full(xs...)
	if e != api.OK || f != api.OK {
		t.Fatalf("P4.2: errors %d, %d", e, f)
	}
	for i := range xs {
		xs[i] = 3
	}
	checkView(t, one, rising())
	for cell := range one.Was {
		one.Known[cell], one.Was[cell], one.Now[cell] = false, 4, 5
	}
	checkView(t, two, rising())
	if !slices.Equal(xs, repeated(3)) {
		t.Errorf("R4: a change in a view is seen in what was handed in: %v", xs)
	}
	// A later answer hangs on its own numbers only.
	checkFull(t, xs)
	checkFull(t, rising())
}

func TestCallsFromSeveralGoroutines(t *testing.T) {
	var wg sync.WaitGroup
	for n := range 4 {
		wg.Go(func() {
			for range 500 {
				checkFull(t, repeated(n))
				checkNoFull(t, repeated(-1-n))
				got, e := Account(n)
				checkCell(t, "account", n, got, e)
				for _, l := range allLinked() {
					got, e := Link(l.key, l.level)
					checkCell(t, "link", l.cell, got, e)
				}
			}
		})
	}
	wg.Wait()
}
