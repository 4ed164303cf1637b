package epoch_test

import (
	"testing"

	"pawl/api"
	"pawl/arena"
	"pawl/epoch"
)

// newEnter is an Enter of a thread that is one.
func newEnter(t *testing.T, thread int) *epoch.Enter {
	t.Helper()
	m, e := epoch.NewEnter(thread)
	if m == nil || e != api.OK {
		t.Fatalf("P11.1: NewEnter(%d): %v, error %d", thread, m, e)
	}
	return m
}

// checkEpoch looks what an Enter's Epoch is, also when it is asked again.
func checkEpoch(t *testing.T, m *epoch.Enter, want int) {
	t.Helper()
	for range 2 {
		if got := m.Epoch(); got != want {
			t.Fatalf("P11.1: Epoch: %d, want %d", got, want)
		}
	}
}

// checkLoads looks that an Enter's step loads that epoch, and that it goes on with it.
func checkLoads(t *testing.T, m *epoch.Enter, a *arena.Arena, epoch int) {
	t.Helper()
	checkGoesOn(t, m, a, load(epochAt, 4*epoch))
	checkEpoch(t, m, epoch)
}

// checkSays looks that an Enter's step stores that epoch and 1 where its thread says it.
func checkSays(t *testing.T, m *epoch.Enter, a *arena.Arena, thread int, epoch int) {
	t.Helper()
	checkGoesOn(t, m, a, store(sayAt+thread, wordAt(a, sayAt+thread), 4*(epoch+1)))
	checkEpoch(t, m, epoch)
}

// checkEnters looks that an Enter's step finds that epoch again, and that it is over.
func checkEnters(t *testing.T, m *epoch.Enter, a *arena.Arena, thread int, epoch int) {
	t.Helper()
	checkEnds(t, m, a, load(epochAt, 4*epoch))
	checkEpoch(t, m, epoch)
	if x := wordAt(a, sayAt+thread); x != 4*(epoch+1) {
		t.Fatalf("P11.1: at SayAt and %d behind an Enter of epoch %d: %d", thread, epoch, x)
	}
}

func TestEnterAlone(t *testing.T) {
	a := arena.New()
	m := newEnter(t, 2)
	checkEpoch(t, m, 0)
	checkGoesOn(t, m, a, api.Touch{Kind: 0, At: 29, Was: 0, Now: 0})
	checkEpoch(t, m, 0)
	checkGoesOn(t, m, a, api.Touch{Kind: 1, At: 32, Was: 0, Now: 4})
	checkEpoch(t, m, 0)
	checkEnds(t, m, a, api.Touch{Kind: 0, At: 29, Was: 0, Now: 0})
	checkEpoch(t, m, 0)
}

func TestEnterOfALaterEpoch(t *testing.T) {
	a := laid(t, 20, 0, 0, 0, 19)
	m := newEnter(t, 3)
	checkEpoch(t, m, 0)
	checkGoesOn(t, m, a, api.Touch{Kind: 0, At: 29, Was: 80, Now: 80})
	checkEpoch(t, m, 20)
	checkGoesOn(t, m, a, api.Touch{Kind: 1, At: 33, Was: 76, Now: 84})
	checkEpoch(t, m, 20)
	checkEnds(t, m, a, api.Touch{Kind: 0, At: 29, Was: 80, Now: 80})
	checkEpoch(t, m, 20)
}

func TestEnterOfEachThreadAndEpoch(t *testing.T) {
	for _, epoch := range epochs() {
		a := laid(t, epoch)
		for _, thread := range []int{0, 1, 2, 3, 3, 2, 1, 0} {
			m := newEnter(t, thread)
			checkEpoch(t, m, 0)
			checkLoads(t, m, a, epoch)
			checkSays(t, m, a, thread, epoch)
			checkEnters(t, m, a, thread, epoch)
		}
	}
}

// What a thread said ahead of it does not count, nor does what other threads say.
func TestEnterOverAnyNumber(t *testing.T) {
	for _, x := range append(noEpochs(t), 80, 84, 88) {
		for thread := range 4 {
			a := laid(t, 20)
			for other := range 4 {
				put(t, a, sayAt+other, x)
			}
			m := newEnter(t, thread)
			checkLoads(t, m, a, 20)
			checkSays(t, m, a, thread, 20)
			checkEnters(t, m, a, thread, 20)
		}
	}
}

// An epoch that another machine moves behind the first load is said all the same, and found out at the next load.
func TestEpochThatMovesAheadOfTheStore(t *testing.T) {
	for thread := range 4 {
		a := laid(t, 20)
		m := newEnter(t, thread)
		checkLoads(t, m, a, 20)
		put(t, a, epochAt, 4*21)
		checkEpoch(t, m, 20)
		checkSays(t, m, a, thread, 20)
		checkLoads(t, m, a, 21)
		checkSays(t, m, a, thread, 21)
		checkEnters(t, m, a, thread, 21)
	}
}

func TestEpochThatMovesBehindTheStore(t *testing.T) {
	for thread := range 4 {
		a := laid(t, 20)
		m := newEnter(t, thread)
		checkLoads(t, m, a, 20)
		checkSays(t, m, a, thread, 20)
		put(t, a, epochAt, 4*21)
		checkEpoch(t, m, 20)
		checkLoads(t, m, a, 21)
		checkSays(t, m, a, thread, 21)
		checkEnters(t, m, a, thread, 21)
	}
}

func TestEpochThatMovesOnceAndAgain(t *testing.T) {
	for thread := range 4 {
		a := laid(t, 20)
		m := newEnter(t, thread)
		checkLoads(t, m, a, 20)
		for epoch := 20; epoch < 60; epoch++ {
			// Now it moves ahead of the store, now behind it.
			if epoch%2 == 0 {
				put(t, a, epochAt, 4*(epoch+1))
			}
			checkSays(t, m, a, thread, epoch)
			put(t, a, epochAt, 4*(epoch+1))
			checkLoads(t, m, a, epoch+1)
		}
		checkSays(t, m, a, thread, 60)
		checkEnters(t, m, a, thread, 60)
	}
}

// Any other epoch is another one: farther on, the last one, or one that was.
func TestEpochThatIsAnother(t *testing.T) {
	for _, was := range epochs() {
		for _, now := range epochs() {
			if was == now {
				continue
			}
			a := laid(t, was)
			m := newEnter(t, 1)
			checkLoads(t, m, a, was)
			checkSays(t, m, a, 1, was)
			put(t, a, epochAt, 4*now)
			checkLoads(t, m, a, now)
			checkSays(t, m, a, 1, now)
			// What was loaded first is another one now, as any.
			put(t, a, epochAt, 4*was)
			checkLoads(t, m, a, was)
			checkSays(t, m, a, 1, was)
			checkEnters(t, m, a, 1, was)
		}
	}
}

// An epoch that is there when it is loaded is the one that was loaded, whatever was there between.
func TestEpochThatIsThereAgain(t *testing.T) {
	a := laid(t, 20)
	m := newEnter(t, 0)
	checkLoads(t, m, a, 20)
	put(t, a, epochAt, 4*21)
	checkSays(t, m, a, 0, 20)
	put(t, a, epochAt, 4*20)
	checkEnters(t, m, a, 0, 20)
}

// An Enter loads the epoch only: what its thread says behind the store does not count.
func TestEnterDoesNotLoadWhatItSays(t *testing.T) {
	a := laid(t, 20)
	m := newEnter(t, 2)
	checkLoads(t, m, a, 20)
	checkSays(t, m, a, 2, 20)
	put(t, a, sayAt+2, 3)
	checkEnds(t, m, a, load(epochAt, 80))
	checkEpoch(t, m, 20)
}

func TestEpochsThatAreNone(t *testing.T) {
	for _, x := range noEpochs(t) {
		for thread := range 4 {
			a := laid(t, 20, 21, 21, 21, 21)
			put(t, a, epochAt, x)
			m := newEnter(t, thread)
			checkFails(t, m, a, load(epochAt, x))
			checkEpoch(t, m, 0)
		}
	}
}

func TestEpochsThatAreNoneBehindTheStore(t *testing.T) {
	for _, x := range noEpochs(t) {
		for _, epoch := range []int{0, 20, lastEpoch} {
			a := laid(t, epoch)
			m := newEnter(t, 1)
			checkLoads(t, m, a, epoch)
			checkSays(t, m, a, 1, epoch)
			put(t, a, epochAt, x)
			checkFails(t, m, a, load(epochAt, x))
			// What is no epoch is not the one that was loaded.
			checkEpoch(t, m, epoch)
		}
	}
}

func TestEpochsThatAreNoneAtTheSecondTime(t *testing.T) {
	for _, x := range noEpochs(t) {
		a := laid(t, 20)
		m := newEnter(t, 1)
		checkLoads(t, m, a, 20)
		checkSays(t, m, a, 1, 20)
		put(t, a, epochAt, 4*21)
		checkLoads(t, m, a, 21)
		put(t, a, epochAt, x)
		checkSays(t, m, a, 1, 21)
		checkFails(t, m, a, load(epochAt, x))
		checkEpoch(t, m, 21)
	}
}

// What is none at EpochAt counts only for a step that loads it.
func TestEpochThatIsNoneForAWhile(t *testing.T) {
	for _, x := range noEpochs(t) {
		a := laid(t, 20)
		m := newEnter(t, 1)
		checkLoads(t, m, a, 20)
		put(t, a, epochAt, x)
		checkSays(t, m, a, 1, 20)
		put(t, a, epochAt, 4*20)
		checkEnters(t, m, a, 1, 20)
	}
}

func TestEnterWithoutAnArena(t *testing.T) {
	a := laid(t, 20)
	m := newEnter(t, 3)
	checkNilArena(t, m)
	checkEpoch(t, m, 0)
	checkLoads(t, m, a, 20)
	checkNilArena(t, m)
	checkEpoch(t, m, 20)
	checkSays(t, m, a, 3, 20)
	checkNilArena(t, m)
	put(t, a, epochAt, 4*21)
	checkLoads(t, m, a, 21)
	checkNilArena(t, m)
	checkSays(t, m, a, 3, 21)
	checkNilArena(t, m)
	checkEnters(t, m, a, 3, 21)
	checkNilArena(t, m)
	checkOver(t, m, a)
	checkEpoch(t, m, 21)
}

func TestEnterWithoutAnArenaThatFailed(t *testing.T) {
	a := arena.New()
	put(t, a, epochAt, 3)
	m := newEnter(t, 0)
	checkFails(t, m, a, load(epochAt, 3))
	checkNilArena(t, m)
	checkOver(t, m, a)
	checkEpoch(t, m, 0)
}

// Each call tells a machine of its own.
func TestEntersAreApart(t *testing.T) {
	a := laid(t, 20)
	m, n := newEnter(t, 1), newEnter(t, 1)
	checkLoads(t, m, a, 20)
	put(t, a, epochAt, 4*21)
	checkEpoch(t, n, 0)
	checkLoads(t, n, a, 21)
	checkEpoch(t, m, 20)
	checkSays(t, n, a, 1, 21)
	checkSays(t, m, a, 1, 20)
	checkEnds(t, n, a, load(epochAt, 4*21))
	checkLoads(t, m, a, 21)
	checkSays(t, m, a, 1, 21)
	checkEnters(t, m, a, 1, 21)
}
