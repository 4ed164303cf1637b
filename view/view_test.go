package view

import (
	"sync"
	"testing"

	"pawl/api"
)

const (
	leastInt  = -1 << 63
	mostInt   = 1<<63 - 1
	mostValue = 1099511627775
)

// known are all cells known, or none.
func known(is bool) [16]bool {
	var all [16]bool
	for cell := range all {
		all[cell] = is
	}
	return all
}

// check looks whether v may be.
func check(t *testing.T, v api.View, want bool) {
	t.Helper()
	if got := May(v); got != want {
		t.Errorf("P5.1: %+v: may %v", v, got)
	}
}

// with is a view whose cells are 7, but x at one of them, in Was or in Now.
func with(is bool, inWas bool, cell int, x int) api.View {
	v := api.View{Known: known(is)}
	for i := range v.Was {
		v.Was[i], v.Now[i] = 7, 7
	}
	if inWas {
		v.Was[cell] = x
	} else {
		v.Now[cell] = x
	}
	return v
}

func TestEachCellKeepsItsLimits(t *testing.T) {
	for cell := range 16 {
		for _, is := range []bool{false, true} {
			for _, inWas := range []bool{false, true} {
				for _, x := range []int{0, 1, 1048575, 1048576, 1048577, 1 << 32, mostValue - 1, mostValue} {
					check(t, with(is, inWas, cell, x), true)
				}
				for _, x := range []int{leastInt, -1 << 32, -mostValue, -2, -1, mostValue + 1, 1 << 41, 1 << 62, mostInt} {
					check(t, with(is, inWas, cell, x), false)
				}
			}
		}
	}
}

func TestViewsOfOneNumber(t *testing.T) {
	check(t, api.View{}, true)
	for _, x := range []int{-1, 0, 5, mostValue, mostValue + 1} {
		v := api.View{Known: known(true)}
		for i := range v.Was {
			v.Was[i], v.Now[i] = x, x
		}
		check(t, v, 0 <= x && x <= mostValue)
	}
}

func TestMayFromSeveralGoroutines(t *testing.T) {
	var wg sync.WaitGroup
	for n := range 4 {
		wg.Go(func() {
			for cell := range 16 {
				check(t, with(true, n < 2, cell, mostValue-n), true)
				check(t, with(true, n < 2, cell, mostValue+1+n), false)
			}
		})
	}
	wg.Wait()
}
