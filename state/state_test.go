package state

import (
	"sync"
	"testing"

	"pawl/api"
)

const (
	leastInt    = -1 << 63
	mostInt     = 1<<63 - 1
	mostBalance = 1048575
)

// check looks whether s may be.
func check(t *testing.T, s api.State, want bool) {
	t.Helper()
	if got := May(s); got != want {
		t.Errorf("P8.1: %+v: may %v", s, got)
	}
}

// with is a state of these balances, but x of one account, with all keys or none.
func with(others int, account int, x int, in bool) api.State {
	s := api.State{Balances: [4]int{others, others, others, others}}
	s.Balances[account] = x
	for key := range s.In {
		s.In[key] = in
	}
	return s
}

func TestEachBalanceKeepsItsLimits(t *testing.T) {
	for account := range 4 {
		for _, others := range []int{-1, 0, 7, mostBalance} {
			for _, in := range []bool{false, true} {
				for _, x := range []int{-1, 0, 1, 2, 65536, mostBalance - 1, mostBalance} {
					check(t, with(others, account, x, in), true)
				}
				for _, x := range []int{leastInt, -1 << 32, -mostBalance, -3, -2, mostBalance + 1, mostBalance + 2, 1 << 32, mostInt} {
					check(t, with(others, account, x, in), false)
				}
			}
		}
	}
}

func TestStatesOfOneNumber(t *testing.T) {
	check(t, api.State{}, true)
	for _, x := range []int{-2, -1, 0, 5, mostBalance, mostBalance + 1} {
		check(t, with(x, 0, x, false), -1 <= x && x <= mostBalance)
	}
}

func TestClosed(t *testing.T) {
	if Closed != -1 {
		t.Errorf("P8.1: closed is %d", Closed)
	}
}

func TestMayFromSeveralGoroutines(t *testing.T) {
	var wg sync.WaitGroup
	for n := range 4 {
		wg.Go(func() {
			for account := range 4 {
				check(t, with(n-1, account, mostBalance-n, n < 2), true)
				check(t, with(n-1, account, mostBalance+1+n, n < 2), false)
			}
		})
	}
	wg.Wait()
}
