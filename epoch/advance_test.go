package epoch_test

import (
	"testing"

	"pawl/api"
	"pawl/arena"
	"pawl/epoch"
)

// newAdvance is an Advance of a number of threads that may be.
func newAdvance(t *testing.T, threads int) *epoch.Advance {
	t.Helper()
	d, e := epoch.NewAdvance(threads)
	if d == nil || e != api.OK {
		t.Fatalf("P11.3: NewAdvance(%d): %v, error %d", threads, d, e)
	}
	return d
}

// checkMoved looks what an Advance's Moved is, also when it is asked again.
func checkMoved(t *testing.T, d *epoch.Advance, want bool) {
	t.Helper()
	for range 2 {
		if got := d.Moved(); got != want {
			t.Fatalf("P11.3: Moved: %v, want %v", got, want)
		}
	}
}

// checkLooks looks that an Advance's steps load the epoch, and then what so many threads say, and that it goes on.
func checkLooks(t *testing.T, d *epoch.Advance, a *arena.Arena, threads int) {
	t.Helper()
	checkMoved(t, d, false)
	checkGoesOn(t, d, a, load(epochAt, wordAt(a, epochAt)))
	checkAsks(t, d, a, 0, threads)
}

// checkAsks looks that an Advance's steps load what the threads from first on, below behind, say, and that it goes on.
func checkAsks(t *testing.T, d *epoch.Advance, a *arena.Arena, first int, behind int) {
	t.Helper()
	checkMoved(t, d, false)
	for thread := first; thread < behind; thread++ {
		checkGoesOn(t, d, a, load(sayAt+thread, wordAt(a, sayAt+thread)))
		checkMoved(t, d, false)
	}
}

// checkMoves looks that an Advance's step moves that epoch, and that it is over.
func checkMoves(t *testing.T, d *epoch.Advance, a *arena.Arena, epoch int) {
	t.Helper()
	checkEnds(t, d, a, swap(epochAt, 4*epoch, 4*(epoch+1)))
	checkMoved(t, d, true)
}

// checkMovesNot looks that an Advance's swap finds x, leaves it, and that it is over.
func checkMovesNot(t *testing.T, d *epoch.Advance, a *arena.Arena, x int) {
	t.Helper()
	checkEnds(t, d, a, swap(epochAt, x, x))
	checkMoved(t, d, false)
}

func TestAdvanceAlone(t *testing.T) {
	a := laid(t, 20, 0, 21, 0, 21)
	d := newAdvance(t, 4)
	checkMoved(t, d, false)
	for _, touch := range []api.Touch{
		{Kind: 0, At: 29, Was: 80, Now: 80},
		{Kind: 0, At: 30, Was: 0, Now: 0}, {Kind: 0, At: 31, Was: 84, Now: 84}, {Kind: 0, At: 32, Was: 0, Now: 0}, {Kind: 0, At: 33, Was: 84, Now: 84},
	} {
		checkGoesOn(t, d, a, touch)
		checkMoved(t, d, false)
	}
	checkEnds(t, d, a, api.Touch{Kind: 2, At: 29, Was: 80, Now: 84})
	checkMoved(t, d, true)
}

func TestAdvanceOfOneThread(t *testing.T) {
	a := arena.New()
	d := newAdvance(t, 1)
	checkMoved(t, d, false)
	checkGoesOn(t, d, a, api.Touch{Kind: 0, At: 29, Was: 0, Now: 0})
	checkMoved(t, d, false)
	checkGoesOn(t, d, a, api.Touch{Kind: 0, At: 30, Was: 0, Now: 0})
	checkMoved(t, d, false)
	checkEnds(t, d, a, api.Touch{Kind: 2, At: 29, Was: 0, Now: 4})
	checkMoved(t, d, true)
}

// Each set of the threads is in a region of the epoch, also that of none.
func TestAdvanceWithEachSetOfThreadsInside(t *testing.T) {
	for _, epoch := range epochs() {
		for threads := 1; threads <= 4; threads++ {
			for set := range 1 << threads {
				a := laid(t, epoch)
				for thread := range threads {
					put(t, a, sayAt+thread, 4*(epoch+1)*(set>>thread&1))
				}
				d := newAdvance(t, threads)
				checkLooks(t, d, a, threads)
				checkMoves(t, d, a, epoch)
			}
		}
	}
}

// others are values that tell neither of no region nor of one of that epoch.
func others(epoch int) []int {
	var vs []int
	for _, v := range []int{
		1, 2, 3, 16, 20, 21, 22, 84, epoch - 2, epoch - 1, epoch, epoch + 2, epoch + 3, 2*epoch + 2, epoch + 1 + 1<<30, epoch + 1 + 1<<32,
		lastEpoch - 1, lastEpoch, lastEpoch + 1, lastEpoch + 2, lastEpoch + 3, 1 << 31, 1 << 32, 1 << 39, mostValue - 1, mostValue,
	} {
		if v > 0 && v <= mostValue && v != epoch+1 {
			vs = append(vs, v)
		}
	}
	return vs
}

func TestAdvanceWithAThreadInsideAnother(t *testing.T) {
	for _, epoch := range epochs() {
		for _, said := range others(epoch) {
			for threads := 1; threads <= 4; threads++ {
				for thread := range threads {
					a := laid(t, epoch, epoch+1, 0, epoch+1, 0)
					put(t, a, sayAt+thread, 4*said)
					d := newAdvance(t, threads)
					checkLooks(t, d, a, thread)
					checkEnds(t, d, a, load(sayAt+thread, 4*said))
					checkMoved(t, d, false)
					if x := wordAt(a, epochAt); x != 4*epoch {
						t.Fatalf("P11.3: the epoch behind an advance that was stopped: %d, want %d", x, 4*epoch)
					}
				}
			}
		}
	}
}

// The first one that says another one ends it, so what the ones behind say is not looked at.
func TestAdvanceWithSeveralThreadsInsideOthers(t *testing.T) {
	a := laid(t, 20, 21, 20, 22, 3)
	d := newAdvance(t, 4)
	checkLooks(t, d, a, 1)
	checkEnds(t, d, a, load(31, 80))
	checkMoved(t, d, false)
	put(t, a, 31, 0)
	d = newAdvance(t, 4)
	checkLooks(t, d, a, 2)
	checkEnds(t, d, a, load(32, 88))
	checkMoved(t, d, false)
}

// Threads that are none of its threads may say anything, nor are other places looked at.
func TestAdvanceLooksAtItsThreadsOnly(t *testing.T) {
	for _, x := range append(noValues(t), 4, 80, 88) {
		for threads := 1; threads <= 4; threads++ {
			a := laid(t, 20, 0, 21, 21, 0)
			for at := sayAt + threads; at < sayAt+8; at++ {
				put(t, a, at, x)
			}
			put(t, a, epochAt-1, x)
			d := newAdvance(t, threads)
			checkLooks(t, d, a, threads)
			checkMoves(t, d, a, 20)
		}
	}
}

// moves are epochs that another machine may have set ahead of the swap from 20 to 21.
func moves() []int {
	return []int{21, 22, 19, 0, 1, 40, lastEpoch}
}

// An epoch that is moved behind any of its loads is found out at the swap; until then it asks for the one that it loaded.
func TestEpochThatMovesAheadOfTheSwap(t *testing.T) {
	for _, now := range moves() {
		for threads := 1; threads <= 4; threads++ {
			for ahead := 0; ahead <= threads; ahead++ {
				a := laid(t, 20, 21, 0, 21, 21)
				d := newAdvance(t, threads)
				checkLooks(t, d, a, ahead)
				put(t, a, epochAt, 4*now)
				checkAsks(t, d, a, ahead, threads)
				checkMovesNot(t, d, a, 4*now)
			}
		}
	}
}

func TestEpochThatMovesAheadOfALook(t *testing.T) {
	a := laid(t, 20, 21, 22, 21, 21)
	d := newAdvance(t, 4)
	checkLooks(t, d, a, 1)
	put(t, a, epochAt, 4*21)
	checkEnds(t, d, a, load(31, 88))
	checkMoved(t, d, false)
}

// An epoch that is there at the swap is the one that was loaded, whatever was there between.
func TestEpochThatIsThereAgainAtTheSwap(t *testing.T) {
	a := laid(t, 20)
	d := newAdvance(t, 2)
	checkLooks(t, d, a, 1)
	put(t, a, epochAt, 4*21)
	checkAsks(t, d, a, 1, 2)
	put(t, a, epochAt, 4*20)
	checkMoves(t, d, a, 20)
}

// A swap looks only whether the epoch is there that was loaded; whoever loads what is none then tells it.
func TestEpochsThatAreNoneAtTheSwap(t *testing.T) {
	for _, x := range noEpochs(t) {
		a := laid(t, 20, 0, 21)
		d := newAdvance(t, 2)
		checkLooks(t, d, a, 2)
		put(t, a, epochAt, x)
		checkMovesNot(t, d, a, x)
	}
}

// What a thread says counts when it is loaded, not ahead of it nor behind it.
func TestWhatIsSaidWhenItIsLoaded(t *testing.T) {
	for thread := range 4 {
		a := laid(t, 20, 21, 21, 21, 21)
		put(t, a, sayAt+thread, 4*20)
		d := newAdvance(t, 4)
		checkLooks(t, d, a, thread)
		put(t, a, sayAt+thread, 4*21)
		checkAsks(t, d, a, thread, thread+1)
		put(t, a, sayAt+thread, 4*20)
		checkAsks(t, d, a, thread+1, 4)
		checkMoves(t, d, a, 20)
		d = newAdvance(t, 4)
		put(t, a, sayAt+thread, 0)
		put(t, a, epochAt, 4*20)
		checkLooks(t, d, a, thread)
		put(t, a, sayAt+thread, 4*22)
		checkEnds(t, d, a, load(sayAt+thread, 88))
		checkMoved(t, d, false)
	}
}

// The last epoch that may be is moved as any; what stands there then is none.
func TestAdvanceOfTheLastEpoch(t *testing.T) {
	for threads := 1; threads <= 4; threads++ {
		a := laid(t, lastEpoch, 0, lastEpoch+1, 0, lastEpoch+1)
		d := newAdvance(t, threads)
		checkLooks(t, d, a, threads)
		checkEnds(t, d, a, api.Touch{Kind: 2, At: 29, Was: 4294967288, Now: 4294967292})
		checkMoved(t, d, true)
		d = newAdvance(t, threads)
		checkFails(t, d, a, load(epochAt, 4294967292))
		checkMoved(t, d, false)
		m := newEnter(t, 0)
		checkFails(t, m, a, load(epochAt, 4294967292))
		checkEpoch(t, m, 0)
	}
}

func TestAdvancesOneBehindTheOther(t *testing.T) {
	a := arena.New()
	for epoch := range 50 {
		threads := 1 + epoch%4
		d := newAdvance(t, threads)
		checkLooks(t, d, a, threads)
		checkMoves(t, d, a, epoch)
	}
}

func TestAdvanceFromEpochsThatAreNone(t *testing.T) {
	for _, x := range noEpochs(t) {
		for threads := 1; threads <= 4; threads++ {
			a := arena.New()
			put(t, a, epochAt, x)
			d := newAdvance(t, threads)
			checkFails(t, d, a, load(epochAt, x))
			checkMoved(t, d, false)
		}
	}
}

func TestWhatIsSaidThatIsNone(t *testing.T) {
	for _, x := range noValues(t) {
		for threads := 1; threads <= 4; threads++ {
			for thread := range threads {
				a := laid(t, 20, 21, 0, 21, 0)
				put(t, a, sayAt+thread, x)
				d := newAdvance(t, threads)
				checkLooks(t, d, a, thread)
				checkFails(t, d, a, load(sayAt+thread, x))
				checkMoved(t, d, false)
				if x := wordAt(a, epochAt); x != 80 {
					t.Fatalf("P11.3: the epoch behind an advance that failed: %d", x)
				}
			}
		}
	}
}

func TestAdvanceWithoutAnArena(t *testing.T) {
	a := laid(t, 20, 21, 0)
	d := newAdvance(t, 2)
	checkNilArena(t, d)
	checkLooks(t, d, a, 0)
	checkNilArena(t, d)
	checkAsks(t, d, a, 0, 1)
	checkNilArena(t, d)
	checkAsks(t, d, a, 1, 2)
	checkNilArena(t, d)
	checkMoves(t, d, a, 20)
	checkNilArena(t, d)
	checkOver(t, d, a)
	checkMoved(t, d, true)
}

func TestAdvanceWithoutAnArenaThatWasStopped(t *testing.T) {
	a := laid(t, 20, 20)
	d := newAdvance(t, 1)
	checkLooks(t, d, a, 0)
	checkEnds(t, d, a, load(sayAt, 80))
	checkNilArena(t, d)
	checkOver(t, d, a)
	checkMoved(t, d, false)
}

func TestAdvanceWithoutAnArenaThatFailed(t *testing.T) {
	for _, at := range []int{epochAt, sayAt} {
		a := laid(t, 20)
		put(t, a, at, 3)
		d := newAdvance(t, 1)
		if at == sayAt {
			checkLooks(t, d, a, 0)
		}
		checkFails(t, d, a, load(at, 3))
		checkNilArena(t, d)
		checkOver(t, d, a)
		checkMoved(t, d, false)
	}
}

// Each call tells a machine of its own.
func TestAdvancesAreApart(t *testing.T) {
	a := laid(t, 20, 21, 0, 0)
	d, f := newAdvance(t, 2), newAdvance(t, 3)
	checkLooks(t, d, a, 1)
	checkLooks(t, f, a, 3)
	checkAsks(t, d, a, 1, 2)
	checkMoves(t, d, a, 20)
	checkMoved(t, f, false)
	checkMovesNot(t, f, a, 84)
	checkMoved(t, d, true)
}
