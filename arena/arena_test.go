package arena

import (
	"slices"
	"sync"
	"testing"

	"pawl/api"
)

const (
	leastInt = -1 << 63
	mostInt  = 1<<63 - 1
)

// access is one call, and what it must tell when was is there.
type access struct {
	name string
	do   func(a *Arena, at int) (int, api.Errno)
	kind int
	then func(was int) int
}

func load() access {
	return access{
		"Load",
		func(a *Arena, at int) (int, api.Errno) { return a.Load(at) },
		api.TouchLoad,
		func(was int) int { return was },
	}
}

func store(x int) access {
	return access{
		"Store",
		func(a *Arena, at int) (int, api.Errno) { return a.Store(at, x) },
		api.TouchStore,
		func(int) int { return x },
	}
}

func swap(was int, now int) access {
	return access{
		"Swap",
		func(a *Arena, at int) (int, api.Errno) { return a.Swap(at, was, now) },
		api.TouchSwap,
		func(there int) int {
			if there == was {
				return now
			}
			return there
		},
	}
}

// firstWords are a new arena's, worked out by hand: a value's word is 4 times it.
func firstWords() []int {
	words := make([]int, 634)
	words[16] = 4
	copy(words[17:], []int{8, 12, 16, 20, 24, 28, 32, 36, 40, 44, 48, 0})
	return words
}

// noPlaces are numbers of no place.
func noPlaces() []int {
	return []int{-1, 634, -2, 635, -633, -634, 1000, 1 << 32, mostInt, leastInt}
}

// checkAll looks that the arena's words are these.
func checkAll(t *testing.T, a *Arena, want []int) {
	t.Helper()
	if got := a.All(); !slices.Equal(got, want) {
		t.Fatalf("P2.1: All: %v, want %v", got, want)
	}
}

// checkLast looks that the last access is this one.
func checkLast(t *testing.T, a *Arena, want api.Touch, wantThere bool) {
	t.Helper()
	if got, there := a.Last(); got != want || there != wantThere {
		t.Fatalf("P2.2: Last: %+v, %v, want %+v, %v", got, there, want, wantThere)
	}
}

// checkAccess does an access, and looks at its answer, all words, and Last; words are those ahead of it, and kept as they then are.
func checkAccess(t *testing.T, a *Arena, words []int, at int, c access) {
	t.Helper()
	was := words[at]
	words[at] = c.then(was)
	if got, e := c.do(a, at); got != was || e != api.OK {
		t.Fatalf("P2.1: %s at %d: %d, error %d, want %d", c.name, at, got, e, was)
	}
	checkLast(t, a, api.Touch{Kind: c.kind, At: at, Was: was, Now: words[at]}, true)
	checkAll(t, a, words)
}

// checkRefused looks that an access is refused, and changes nothing.
func checkRefused(t *testing.T, a *Arena, at int, c access) {
	t.Helper()
	words := a.All()
	touch, there := a.Last()
	if got, e := c.do(a, at); got != 0 || e != api.ErrArenaForm {
		t.Fatalf("P2.1: %s at %d, which is no place: %d, error %d", c.name, at, got, e)
	}
	checkAll(t, a, words)
	checkLast(t, a, touch, there)
}

func TestNewWordsAreAsTold(t *testing.T) {
	checkAll(t, New(), firstWords())
}

func TestLoadTellsEachWord(t *testing.T) {
	a, words := New(), firstWords()
	for at := range words {
		checkAccess(t, a, words, at, load())
	}
}

func TestStorePutsAtEachPlace(t *testing.T) {
	a, words := New(), firstWords()
	for at := range words {
		checkAccess(t, a, words, at, store(1000+at))
	}
	for at := range words {
		checkAccess(t, a, words, at, load())
	}
}

func TestSwapPutsAtEachPlaceWhatItFinds(t *testing.T) {
	a, words := New(), firstWords()
	for at, was := range firstWords() {
		checkAccess(t, a, words, at, swap(was+1, 5))
		checkAccess(t, a, words, at, swap(was, 2000+at))
		checkAccess(t, a, words, at, swap(was, 7))
	}
}

func TestSwapOfTheSameWord(t *testing.T) {
	a, words := New(), firstWords()
	for _, at := range []int{0, 16, 633} {
		checkAccess(t, a, words, at, swap(words[at], words[at]))
		checkAccess(t, a, words, at, swap(words[at]+4, words[at]+4))
	}
}

// The arena takes any number; which are words is for those who read them.
func TestAnyNumberMayStand(t *testing.T) {
	a, words := New(), firstWords()
	for _, at := range []int{0, 1, 15, 16, 17, 28, 29, 30, 33, 34, 632, 633} {
		for _, x := range []int{28, 1, 2, 3, 0, -1, 4*api.MaxValue + 4, mostInt, leastInt} {
			checkAccess(t, a, words, at, store(x))
			checkAccess(t, a, words, at, load())
			checkAccess(t, a, words, at, swap(x, x/2))
			checkAccess(t, a, words, at, swap(x/2, x))
		}
	}
}

func TestAccessesInAnyRow(t *testing.T) {
	a, words := New(), firstWords()
	seed := uint64(2)
	next := func(n int) int {
		seed = seed*6364136223846793005 + 1442695040888963407
		return int(seed >> 33 % uint64(n))
	}
	for range 20000 {
		// Few words, so that a Swap often finds what it asks for.
		at, x, y := next(api.ArenaSize), next(3), next(3)
		checkAccess(t, a, words, at, []access{load(), store(x), swap(x, y)}[next(3)])
	}
}

func TestLastAheadOfAnyAccess(t *testing.T) {
	a := New()
	checkLast(t, a, api.Touch{}, false)
	a.All()
	checkLast(t, a, api.Touch{}, false)
	for _, c := range []access{load(), store(28), swap(0, 28)} {
		checkRefused(t, a, -1, c)
		checkRefused(t, a, 634, c)
	}
	checkLast(t, a, api.Touch{}, false)
}

func TestLastIsOfTheLastAccess(t *testing.T) {
	a := New()
	steps := []struct {
		do   access
		at   int
		want api.Touch
	}{
		{load(), 0, api.Touch{}},
		{load(), 16, api.Touch{At: 16, Was: 4, Now: 4}},
		{store(28), 633, api.Touch{Kind: 1, At: 633, Now: 28}},
		{store(8), 633, api.Touch{Kind: 1, At: 633, Was: 28, Now: 8}},
		{swap(8, 12), 633, api.Touch{Kind: 2, At: 633, Was: 8, Now: 12}},
		{swap(8, 16), 633, api.Touch{Kind: 2, At: 633, Was: 12, Now: 12}},
		{load(), 633, api.Touch{At: 633, Was: 12, Now: 12}},
	}
	for _, s := range steps {
		if _, e := s.do.do(a, s.at); e != api.OK {
			t.Fatalf("P2.1: %s at %d: error %d", s.do.name, s.at, e)
		}
		checkLast(t, a, s.want, true)
		a.All()
		checkLast(t, a, s.want, true)
	}
}

func TestPlacesThatAreNone(t *testing.T) {
	a := New()
	for _, first := range []access{load(), store(28), swap(28, 32), swap(28, 36)} {
		if _, e := first.do(a, 633); e != api.OK {
			t.Fatalf("P2.1: %s at 633: error %d", first.name, e)
		}
		for _, at := range noPlaces() {
			for _, c := range []access{load(), store(5), swap(0, 5), swap(32, 5), swap(5, 5)} {
				checkRefused(t, a, at, c)
			}
		}
	}
}

func TestNilArena(t *testing.T) {
	var a *Arena
	for _, c := range []access{load(), store(28), swap(0, 28)} {
		for _, at := range append(noPlaces(), 0, 16, 633) {
			if x, e := c.do(a, at); x != 0 || e != api.ErrNil {
				t.Errorf("R3: %s at %d of nil: %d, error %d", c.name, at, x, e)
			}
		}
	}
	if words := a.All(); len(words) != 0 {
		t.Errorf("R3: All of nil: %v", words)
	}
	checkLast(t, a, api.Touch{}, false)
}

func TestAllIsItsOwnMemory(t *testing.T) {
	a := New()
	one, two := a.All(), a.All()
	for at := range one {
		one[at] = -7
	}
	_ = append(one[:16], -8)
	if !slices.Equal(two, firstWords()) {
		t.Errorf("R4: two answers of All share memory: %v", two)
	}
	checkAll(t, a, firstWords())
	if x, e := a.Load(16); x != 4 || e != api.OK {
		t.Errorf("R4: All's answer is the arena's memory: %d, error %d at 16", x, e)
	}
	if _, e := a.Store(5, 28); e != api.OK || !slices.Equal(two, firstWords()) {
		t.Errorf("R4: a Store is seen in an earlier answer of All: %v, error %d", two, e)
	}
}

func TestArenasAreApart(t *testing.T) {
	a, b := New(), New()
	for at := range api.ArenaSize {
		if _, e := a.Store(at, -1); e != api.OK {
			t.Fatalf("P2.1: Store at %d: error %d", at, e)
		}
	}
	checkAll(t, b, firstWords())
	checkLast(t, b, api.Touch{}, false)
	checkAll(t, New(), firstWords())
}

func TestNewFromSeveralGoroutines(t *testing.T) {
	var wg sync.WaitGroup
	for n := range 4 {
		wg.Go(func() {
			a := New()
			a.Store(n, 28)
			want := firstWords()
			want[n] = 28
			if got := a.All(); !slices.Equal(got, want) {
				t.Errorf("R5: an arena of its own goroutine: %v, want %v", got, want)
			}
		})
	}
	wg.Wait()
}
