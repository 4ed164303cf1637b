package bank

import (
	"slices"
	"strconv"
	"sync"
	"testing"

	"pawl/api"
)

const (
	leastInt    = -1 << 63
	mostInt     = 1<<63 - 1
	mostBalance = 1048575
	mostValue   = 1099511627775
	// shut is how the tests write the balance of an account that is closed.
	shut = -1
)

// four are the accounts' balances, in their row.
type four [4]int

// row is an operation upon balances, and what comes of it, worked out by hand.
type row struct {
	name string
	had  four
	op   api.Op
	code int
	num  int
	has  four
}

// over is a view of these balances, all known. Was, and the cells that are no account's, hold numbers of their own.
func over(had four) api.View {
	var v api.View
	for cell := range 16 {
		v.Known[cell], v.Was[cell], v.Now[cell] = true, 300+cell, 500+cell
	}
	for k, balance := range had {
		v.Now[k] = balance + 1
	}
	return v
}

// only is v with just these cells known.
func only(v api.View, known ...int) api.View {
	v.Known = [16]bool{}
	for _, cell := range known {
		v.Known[cell] = true
	}
	return v
}

// without is v with these cells not known.
func without(v api.View, unknown ...int) api.View {
	for _, cell := range unknown {
		v.Known[cell] = false
	}
	return v
}

// becomes is v with these balances.
func becomes(v api.View, has four) api.View {
	for k, balance := range has {
		v.Now[k] = balance + 1
	}
	return v
}

// checkDone looks that o upon v has one answer, and leaves this view.
func checkDone(t *testing.T, name string, v api.View, o api.Op, answer api.Answer, left api.View) {
	t.Helper()
	got, e := Do(v, o)
	if e != api.OK || got.Need != -1 || !slices.Equal(got.Answers, []api.Answer{answer}) {
		t.Errorf("P5.1: %s: %+v: need %d, answers %v, error %d, want %v", name, o, got.Need, got.Answers, e, answer)
	}
	if got.View != left {
		t.Errorf("P5.1: %s: %+v: view %+v, want %+v", name, o, got.View, left)
	}
}

// checkRow looks that a row's operation does what the row says.
func checkRow(t *testing.T, r row) {
	t.Helper()
	v := over(r.had)
	checkDone(t, r.name, v, r.op, api.Answer{Code: r.code, Num: r.num}, becomes(v, r.has))
}

// checkNeed looks that o upon v needs that cell, and has done nothing.
func checkNeed(t *testing.T, v api.View, o api.Op, cell int) {
	t.Helper()
	got, e := Do(v, o)
	if e != api.OK || got.Need != cell || len(got.Answers) != 0 {
		t.Errorf("P5.1: %+v with %v known: need %d, answers %v, error %d, want need %d", o, v.Known, got.Need, got.Answers, e, cell)
	}
	if got.View != v {
		t.Errorf("P5.1: %+v that needs %d: view %+v, want %+v", o, cell, got.View, v)
	}
}

// checkRefused looks that o upon v may not be.
func checkRefused(t *testing.T, name string, v api.View, o api.Op) {
	t.Helper()
	got, e := Do(v, o)
	if e != api.ErrBankForm || got.Need != 0 || got.View != (api.View{}) || len(got.Answers) != 0 {
		t.Errorf("P5.1: %s: %+v: need %d, answers %v, view %+v, error %d", name, o, got.Need, got.Answers, got.View, e)
	}
}

func open(a int, x int) api.Op            { return api.Op{Kind: 0, A: a, X: x} }
func closing(a int) api.Op                { return api.Op{Kind: 1, A: a} }
func deposit(a int, x int) api.Op         { return api.Op{Kind: 2, A: a, X: x} }
func withdraw(a int, x int) api.Op        { return api.Op{Kind: 3, A: a, X: x} }
func transfer(a int, b int, x int) api.Op { return api.Op{Kind: 4, A: a, B: b, X: x} }
func sum() api.Op                         { return api.Op{Kind: 5} }

// each is one operation of each kind.
func each() []api.Op {
	return []api.Op{open(1, 5), closing(1), deposit(1, 5), withdraw(1, 5), transfer(1, 2, 5), sum()}
}

func TestOpen(t *testing.T) {
	for _, r := range []row{
		{"a closed one", four{shut, 20, 30, 40}, open(0, 7), 0, 7, four{7, 20, 30, 40}},
		{"the last one", four{10, 20, 30, shut}, open(3, 8), 0, 8, four{10, 20, 30, 8}},
		{"with nothing", four{10, shut, 30, 40}, open(1, 0), 0, 0, four{10, 0, 30, 40}},
		{"with one less than the most", four{10, 20, shut, 40}, open(2, 1048574), 0, 1048574, four{10, 20, 1048574, 40}},
		{"with the most", four{10, 20, shut, 40}, open(2, 1048575), 0, 1048575, four{10, 20, 1048575, 40}},
		{"all closed", four{shut, shut, shut, shut}, open(2, 3), 0, 3, four{shut, shut, 3, shut}},
		{"an open one", four{10, 20, 30, 40}, open(0, 7), 1, 0, four{10, 20, 30, 40}},
		{"an open one with as much", four{10, 20, 30, 40}, open(0, 10), 1, 0, four{10, 20, 30, 40}},
		{"an open one with nothing", four{10, 0, 30, 40}, open(1, 0), 1, 0, four{10, 0, 30, 40}},
		{"an empty one", four{10, 0, 30, 40}, open(1, 5), 1, 0, four{10, 0, 30, 40}},
		{"a full one", four{10, 20, 30, 1048575}, open(3, 1), 1, 0, four{10, 20, 30, 1048575}},
		{"the greatest value", four{10, 20, 30, mostValue - 1}, open(3, 1), 1, 0, four{10, 20, 30, mostValue - 1}},
		{"the only open one", four{shut, shut, 0, shut}, open(2, 3), 1, 0, four{shut, shut, 0, shut}},
	} {
		checkRow(t, r)
	}
}

func TestClose(t *testing.T) {
	for _, r := range []row{
		{"an open one", four{10, 20, 30, 40}, closing(0), 0, 10, four{shut, 20, 30, 40}},
		{"the last one", four{10, 20, 30, 40}, closing(3), 0, 40, four{10, 20, 30, shut}},
		{"an empty one", four{10, 0, 30, 40}, closing(1), 0, 0, four{10, shut, 30, 40}},
		{"a full one", four{10, 20, 1048575, 40}, closing(2), 0, 1048575, four{10, 20, shut, 40}},
		{"above the most", four{10, 20, 1048576, 40}, closing(2), 0, 1048576, four{10, 20, shut, 40}},
		{"the greatest value", four{10, 20, mostValue - 1, 40}, closing(2), 0, mostValue - 1, four{10, 20, shut, 40}},
		{"the only open one", four{shut, 20, shut, shut}, closing(1), 0, 20, four{shut, shut, shut, shut}},
		{"a closed one", four{shut, 20, 30, 40}, closing(0), 2, 0, four{shut, 20, 30, 40}},
		{"the only closed one", four{10, 20, 30, shut}, closing(3), 2, 0, four{10, 20, 30, shut}},
		{"all closed", four{shut, shut, shut, shut}, closing(1), 2, 0, four{shut, shut, shut, shut}},
	} {
		checkRow(t, r)
	}
}

func TestDeposit(t *testing.T) {
	for _, r := range []row{
		{"some", four{10, 20, 30, 40}, deposit(0, 7), 0, 17, four{17, 20, 30, 40}},
		{"into the last one", four{10, 20, 30, 40}, deposit(3, 7), 0, 47, four{10, 20, 30, 47}},
		{"nothing", four{10, 20, 30, 40}, deposit(1, 0), 0, 20, four{10, 20, 30, 40}},
		{"nothing into an empty one", four{10, 0, 30, 40}, deposit(1, 0), 0, 0, four{10, 0, 30, 40}},
		{"the most into an empty one", four{10, 0, 30, 40}, deposit(1, 1048575), 0, 1048575, four{10, 1048575, 30, 40}},
		{"to just one less than the most", four{10, 20, 1048570, 40}, deposit(2, 4), 0, 1048574, four{10, 20, 1048574, 40}},
		{"to just the most", four{10, 20, 1048570, 40}, deposit(2, 5), 0, 1048575, four{10, 20, 1048575, 40}},
		{"one above the most", four{10, 20, 1048570, 40}, deposit(2, 6), 4, 0, four{10, 20, 1048570, 40}},
		{"the most into one of one", four{10, 1, 30, 40}, deposit(1, 1048575), 4, 0, four{10, 1, 30, 40}},
		{"nothing into a full one", four{1048575, 20, 30, 40}, deposit(0, 0), 0, 1048575, four{1048575, 20, 30, 40}},
		{"one into a full one", four{1048575, 20, 30, 40}, deposit(0, 1), 4, 0, four{1048575, 20, 30, 40}},
		{"the most into a full one", four{1048575, 20, 30, 40}, deposit(0, 1048575), 4, 0, four{1048575, 20, 30, 40}},
		{"nothing above the most", four{1048576, 20, 30, 40}, deposit(0, 0), 4, 0, four{1048576, 20, 30, 40}},
		{"nothing onto the greatest value", four{10, mostValue - 1, 30, 40}, deposit(1, 0), 4, 0, four{10, mostValue - 1, 30, 40}},
		{"the most onto the greatest value", four{10, mostValue - 1, 30, 40}, deposit(1, 1048575), 4, 0, four{10, mostValue - 1, 30, 40}},
		{"into a closed one", four{10, shut, 30, 40}, deposit(1, 7), 2, 0, four{10, shut, 30, 40}},
		{"nothing into a closed one", four{10, shut, 30, 40}, deposit(1, 0), 2, 0, four{10, shut, 30, 40}},
		{"one into a closed one", four{10, shut, 30, 40}, deposit(1, 1), 2, 0, four{10, shut, 30, 40}},
		{"the most into a closed one", four{10, shut, 30, 40}, deposit(1, 1048575), 2, 0, four{10, shut, 30, 40}},
	} {
		checkRow(t, r)
	}
}

func TestWithdraw(t *testing.T) {
	for _, r := range []row{
		{"some", four{10, 20, 30, 40}, withdraw(0, 7), 0, 3, four{3, 20, 30, 40}},
		{"from the last one", four{10, 20, 30, 40}, withdraw(3, 7), 0, 33, four{10, 20, 30, 33}},
		{"nothing", four{10, 20, 30, 40}, withdraw(1, 0), 0, 20, four{10, 20, 30, 40}},
		{"all but one", four{10, 20, 30, 40}, withdraw(2, 29), 0, 1, four{10, 20, 1, 40}},
		{"just the balance", four{10, 20, 30, 40}, withdraw(2, 30), 0, 0, four{10, 20, 0, 40}},
		{"one more than the balance", four{10, 20, 30, 40}, withdraw(2, 31), 3, 0, four{10, 20, 30, 40}},
		{"the most", four{10, 20, 30, 40}, withdraw(2, 1048575), 3, 0, four{10, 20, 30, 40}},
		{"nothing from an empty one", four{10, 0, 30, 40}, withdraw(1, 0), 0, 0, four{10, 0, 30, 40}},
		{"one from an empty one", four{10, 0, 30, 40}, withdraw(1, 1), 3, 0, four{10, 0, 30, 40}},
		{"the most from one less", four{1048574, 20, 30, 40}, withdraw(0, 1048575), 3, 0, four{1048574, 20, 30, 40}},
		{"the most from a full one", four{1048575, 20, 30, 40}, withdraw(0, 1048575), 0, 0, four{0, 20, 30, 40}},
		{"nothing above the most", four{1048576, 20, 30, 40}, withdraw(0, 0), 0, 1048576, four{1048576, 20, 30, 40}},
		{"the most of the greatest value", four{10, mostValue - 1, 30, 40}, withdraw(1, 1048575), 0, 1099510579199, four{10, 1099510579199, 30, 40}},
		{"from a closed one", four{10, 20, 30, shut}, withdraw(3, 7), 2, 0, four{10, 20, 30, shut}},
		{"nothing from a closed one", four{10, 20, 30, shut}, withdraw(3, 0), 2, 0, four{10, 20, 30, shut}},
		{"the most from a closed one", four{10, 20, 30, shut}, withdraw(3, 1048575), 2, 0, four{10, 20, 30, shut}},
	} {
		checkRow(t, r)
	}
}

func TestTransfer(t *testing.T) {
	for _, r := range []row{
		{"some", four{10, 20, 30, 40}, transfer(0, 1, 7), 0, 3, four{3, 27, 30, 40}},
		{"some back", four{10, 20, 30, 40}, transfer(1, 0, 7), 0, 13, four{17, 13, 30, 40}},
		{"between the outer ones", four{10, 20, 30, 40}, transfer(3, 0, 7), 0, 33, four{17, 20, 30, 33}},
		{"nothing", four{10, 20, 30, 40}, transfer(1, 2, 0), 0, 20, four{10, 20, 30, 40}},
		{"nothing between empty ones", four{10, 0, 0, 40}, transfer(1, 2, 0), 0, 0, four{10, 0, 0, 40}},
		{"just the balance", four{10, 20, 30, 40}, transfer(2, 3, 30), 0, 0, four{10, 20, 0, 70}},
		{"one more than the balance", four{10, 20, 30, 40}, transfer(2, 3, 31), 3, 0, four{10, 20, 30, 40}},
		{"the most", four{10, 20, 30, 40}, transfer(2, 3, 1048575), 3, 0, four{10, 20, 30, 40}},
		{"one from an empty one", four{0, 20, 30, 40}, transfer(0, 1, 1), 3, 0, four{0, 20, 30, 40}},
		{"all of a full one into an empty one", four{1048575, 0, 30, 40}, transfer(0, 1, 1048575), 0, 0, four{0, 1048575, 30, 40}},
		{"to just the most", four{10, 20, 1048570, 40}, transfer(1, 2, 5), 0, 15, four{10, 15, 1048575, 40}},
		{"one above the most", four{10, 20, 1048570, 40}, transfer(1, 2, 6), 4, 0, four{10, 20, 1048570, 40}},
		{"nothing into a full one", four{10, 20, 30, 1048575}, transfer(0, 3, 0), 0, 10, four{10, 20, 30, 1048575}},
		{"one into a full one", four{10, 20, 30, 1048575}, transfer(0, 3, 1), 4, 0, four{10, 20, 30, 1048575}},
		{"all of a full one into a full one", four{1048575, 20, 30, 1048575}, transfer(0, 3, 1048575), 4, 0, four{1048575, 20, 30, 1048575}},
		{"both short and above the most", four{10, 20, 30, 1048575}, transfer(0, 3, 11), 3, 0, four{10, 20, 30, 1048575}},
		{"out of above the most", four{1048580, 20, 30, 40}, transfer(0, 3, 5), 0, 1048575, four{1048575, 20, 30, 45}},
		{"nothing into above the most", four{10, 20, 30, 1048576}, transfer(0, 3, 0), 4, 0, four{10, 20, 30, 1048576}},
		{"between the greatest values", four{mostValue - 1, mostValue - 1, 30, 40}, transfer(0, 1, 1), 4, 0, four{mostValue - 1, mostValue - 1, 30, 40}},
		{"out of the greatest value", four{mostValue - 1, 20, 30, 40}, transfer(0, 1, 1048555), 0, 1099510579219, four{1099510579219, 1048575, 30, 40}},
	} {
		checkRow(t, r)
	}
}

func TestTransferOfClosedOnes(t *testing.T) {
	for _, r := range []row{
		{"from a closed one", four{shut, 20, 30, 40}, transfer(0, 1, 7), 2, 0, four{shut, 20, 30, 40}},
		{"to a closed one", four{10, shut, 30, 40}, transfer(0, 1, 7), 2, 0, four{10, shut, 30, 40}},
		{"both closed", four{shut, shut, 30, 40}, transfer(0, 1, 7), 2, 0, four{shut, shut, 30, 40}},
		{"nothing from a closed one", four{shut, 20, 30, 40}, transfer(0, 1, 0), 2, 0, four{shut, 20, 30, 40}},
		{"nothing to a closed one", four{10, shut, 30, 40}, transfer(0, 1, 0), 2, 0, four{10, shut, 30, 40}},
		{"one to a closed one", four{10, shut, 30, 40}, transfer(0, 1, 1), 2, 0, four{10, shut, 30, 40}},
		{"too much to a closed one", four{10, shut, 30, 40}, transfer(0, 1, 11), 2, 0, four{10, shut, 30, 40}},
		{"from a closed one to a full one", four{shut, 1048575, 30, 40}, transfer(0, 1, 1), 2, 0, four{shut, 1048575, 30, 40}},
		{"the most to a closed one", four{1048575, shut, 30, 40}, transfer(0, 1, 1048575), 2, 0, four{1048575, shut, 30, 40}},
	} {
		checkRow(t, r)
	}
}

func TestTransferToItself(t *testing.T) {
	for _, r := range []row{
		{"some", four{10, 20, 30, 40}, transfer(1, 1, 7), 0, 20, four{10, 20, 30, 40}},
		{"nothing", four{10, 20, 30, 40}, transfer(0, 0, 0), 0, 10, four{10, 20, 30, 40}},
		{"just the balance", four{10, 20, 30, 40}, transfer(3, 3, 40), 0, 40, four{10, 20, 30, 40}},
		{"one more than the balance", four{10, 20, 30, 40}, transfer(3, 3, 41), 3, 0, four{10, 20, 30, 40}},
		{"nothing of an empty one", four{10, 20, 0, 40}, transfer(2, 2, 0), 0, 0, four{10, 20, 0, 40}},
		{"one of an empty one", four{10, 20, 0, 40}, transfer(2, 2, 1), 3, 0, four{10, 20, 0, 40}},
		{"one of a full one", four{1048575, 20, 30, 40}, transfer(0, 0, 1), 0, 1048575, four{1048575, 20, 30, 40}},
		{"all of a full one", four{1048575, 20, 30, 40}, transfer(0, 0, 1048575), 0, 1048575, four{1048575, 20, 30, 40}},
		{"above the most", four{mostValue - 1, 20, 30, 40}, transfer(0, 0, 1048575), 0, mostValue - 1, four{mostValue - 1, 20, 30, 40}},
		{"of a closed one", four{10, shut, 30, 40}, transfer(1, 1, 7), 2, 0, four{10, shut, 30, 40}},
		{"nothing of a closed one", four{10, shut, 30, 40}, transfer(1, 1, 0), 2, 0, four{10, shut, 30, 40}},
	} {
		checkRow(t, r)
	}
}

func TestSum(t *testing.T) {
	const full = mostValue - 1
	for _, r := range []row{
		{"of open ones", four{10, 200, 3000, 40000}, sum(), 0, 43210, four{10, 200, 3000, 40000}},
		{"of closed ones", four{shut, shut, shut, shut}, sum(), 0, 0, four{shut, shut, shut, shut}},
		{"of empty ones", four{0, 0, 0, 0}, sum(), 0, 0, four{0, 0, 0, 0}},
		{"of empty and closed ones", four{0, shut, 0, shut}, sum(), 0, 0, four{0, shut, 0, shut}},
		{"of all but the first", four{shut, 200, 3000, 40000}, sum(), 0, 43200, four{shut, 200, 3000, 40000}},
		{"of all but the last", four{10, 200, 3000, shut}, sum(), 0, 3210, four{10, 200, 3000, shut}},
		{"of the second only", four{shut, 7, shut, shut}, sum(), 0, 7, four{shut, 7, shut, shut}},
		{"of full ones", four{1048575, 1048575, 1048575, 1048575}, sum(), 0, 4194300, four{1048575, 1048575, 1048575, 1048575}},
		{"of the greatest values", four{full, full, full, full}, sum(), 0, 4398046511096, four{full, full, full, full}},
	} {
		checkRow(t, r)
	}
}

// Each account, and each pair of them, is like each other one.
func TestEachAccount(t *testing.T) {
	had := four{10, 200, 3000, 40000}
	for a := range 4 {
		more, less, gone := had, had, had
		more[a], less[a], gone[a] = had[a]+9, had[a]-9, shut
		checkRow(t, row{"each", gone, open(a, had[a]), 0, had[a], had})
		checkRow(t, row{"each", had, open(a, 3), 1, 0, had})
		checkRow(t, row{"each", had, closing(a), 0, had[a], gone})
		checkRow(t, row{"each", gone, closing(a), 2, 0, gone})
		checkRow(t, row{"each", had, deposit(a, 9), 0, had[a] + 9, more})
		checkRow(t, row{"each", had, deposit(a, mostBalance-had[a]+1), 4, 0, had})
		checkRow(t, row{"each", gone, deposit(a, 9), 2, 0, gone})
		checkRow(t, row{"each", had, withdraw(a, 9), 0, had[a] - 9, less})
		checkRow(t, row{"each", had, withdraw(a, had[a]+1), 3, 0, had})
		checkRow(t, row{"each", gone, withdraw(a, 9), 2, 0, gone})
		checkRow(t, row{"each", had, transfer(a, a, 9), 0, had[a], had})
		for b := range 4 {
			if a != b {
				moved := less
				moved[b] += 9
				checkRow(t, row{"each", had, transfer(a, b, 9), 0, had[a] - 9, moved})
				checkRow(t, row{"each", had, transfer(a, b, had[a]+1), 3, 0, had})
				checkRow(t, row{"each", gone, transfer(a, b, 9), 2, 0, gone})
				checkRow(t, row{"each", gone, transfer(b, a, 9), 2, 0, gone})
			}
		}
	}
}

// What is there at the edges of all balances and amounts tells how each operation ends; nothing is lost or won by a transfer.
func TestBalancesAndAmountsAboutTheEdges(t *testing.T) {
	balances := []int{shut, 0, 1, 2, 99, 100, 101, mostBalance - 1, mostBalance, mostBalance + 1, mostValue - 1}
	for _, from := range balances {
		for _, x := range []int{0, 1, 2, 99, 100, 101, mostBalance - 1, mostBalance} {
			checkRow(t, depositRow(from, x))
			checkRow(t, withdrawRow(from, x))
			for _, to := range balances {
				checkRow(t, transferRow(from, to, x))
			}
		}
	}
}

func depositRow(had int, x int) row {
	r := row{"edges", four{5, had, 6, 7}, deposit(1, x), 0, had + x, four{5, had + x, 6, 7}}
	switch {
	case had == shut:
		r.code, r.num, r.has = 2, 0, r.had
	case had+x >= 1048576:
		r.code, r.num, r.has = 4, 0, r.had
	}
	return r
}

func withdrawRow(had int, x int) row {
	r := row{"edges", four{5, had, 6, 7}, withdraw(1, x), 0, had - x, four{5, had - x, 6, 7}}
	switch {
	case had == shut:
		r.code, r.num, r.has = 2, 0, r.had
	case x > had:
		r.code, r.num, r.has = 3, 0, r.had
	}
	return r
}

func transferRow(from int, to int, x int) row {
	r := row{"edges", four{to, 5, from, 6}, transfer(2, 0, x), 0, from - x, four{to + x, 5, from - x, 6}}
	switch {
	case from == shut || to == shut:
		r.code, r.num, r.has = 2, 0, r.had
	case x > from:
		r.code, r.num, r.has = 3, 0, r.had
	case to+x >= 1048576:
		r.code, r.num, r.has = 4, 0, r.had
	}
	return r
}

// What was there says nothing, nor does what is known beyond the cells that are asked for.
func TestOtherCellsSayNothing(t *testing.T) {
	v := over(four{10, 20, 30, 40})
	for cell := range v.Was {
		v.Was[cell] = 0
	}
	checkDone(t, "was nothing", v, deposit(1, 5), api.Answer{Num: 25}, becomes(v, four{10, 25, 30, 40}))
	for cell := range v.Was {
		v.Was[cell] = mostValue
	}
	checkDone(t, "was all", v, deposit(1, 5), api.Answer{Num: 25}, becomes(v, four{10, 25, 30, 40}))
	one := only(v, 1)
	checkDone(t, "one known", one, deposit(1, 5), api.Answer{Num: 25}, becomes(one, four{10, 25, 30, 40}))
	checkDone(t, "one known", one, withdraw(1, 21), api.Answer{Code: 3}, one)
	checkDone(t, "one known", one, closing(1), api.Answer{Num: 20}, becomes(one, four{10, shut, 30, 40}))
	checkDone(t, "one known", one, open(1, 3), api.Answer{Code: 1}, one)
	checkDone(t, "one known", one, transfer(1, 1, 4), api.Answer{Num: 20}, one)
	two := only(v, 3, 1)
	checkDone(t, "two known", two, transfer(3, 1, 4), api.Answer{Num: 36}, becomes(two, four{10, 24, 30, 36}))
	all := only(v, 0, 1, 2, 3)
	checkDone(t, "four known", all, sum(), api.Answer{Num: 100}, all)
}

func TestNeedOfOneCell(t *testing.T) {
	v := over(four{10, 20, 30, 40})
	for a := range 4 {
		for _, o := range []api.Op{open(a, 3), closing(a), deposit(a, 3), withdraw(a, 3), transfer(a, a, 3)} {
			checkNeed(t, without(v, a), o, a)
			checkNeed(t, only(v), o, a)
			checkNeed(t, only(v, (a+1)%4, (a+2)%4, (a+3)%4), o, a)
		}
		checkNeed(t, without(v, a), sum(), a)
	}
}

func TestNeedOfTransfer(t *testing.T) {
	v := over(four{10, 20, 30, 40})
	for a := range 4 {
		for b := range 4 {
			o := transfer(a, b, 3)
			checkNeed(t, without(v, a), o, a)
			checkNeed(t, without(v, b), o, b)
			checkNeed(t, without(v, a, b), o, a)
			checkNeed(t, only(v), o, a)
			if a != b {
				checkNeed(t, only(v, a), o, b)
				checkNeed(t, only(v, b), o, a)
			}
		}
	}
}

// What the cell of A says does not make that of B needless.
func TestNeedOfTransferWhoseEndIsPlain(t *testing.T) {
	v := over(four{shut, 0, 30, mostBalance})
	checkNeed(t, without(v, 2), transfer(0, 2, 1), 2)
	checkNeed(t, without(v, 2), transfer(1, 2, 1), 2)
	checkNeed(t, without(v, 2), transfer(3, 2, 0), 2)
	checkNeed(t, without(v, 2), transfer(2, 0, 1), 2)
	checkNeed(t, without(v, 2), transfer(2, 3, 1), 2)
}

func TestNeedOfSum(t *testing.T) {
	for _, had := range []four{{10, 20, 30, 40}, {shut, shut, shut, shut}, {0, shut, 0, 7}} {
		v := over(had)
		for bits := range 15 {
			known, least := []int{}, -1
			for k := range 4 {
				if bits>>k&1 == 1 {
					known = append(known, k)
				} else if least < 0 {
					least = k
				}
			}
			checkNeed(t, only(v, known...), sum(), least)
			checkNeed(t, only(v, append(known, 4, 9, 15)...), sum(), least)
		}
	}
}

// A cell that is not known may hold any value; that is not read.
func TestNeedWhateverStandsThere(t *testing.T) {
	for _, x := range []int{0, 1, 500, mostValue} {
		for k := range 4 {
			v := without(over(four{10, 20, 30, 40}), k)
			v.Was[k], v.Now[k] = x, mostValue-x
			checkNeed(t, v, open(k, 0), k)
			checkNeed(t, v, sum(), k)
			checkNeed(t, v, transfer((k+1)%4, k, 1), k)
		}
	}
	for _, o := range each() {
		checkNeed(t, api.View{}, o, o.A)
	}
}

func TestViewsAtTheirEdges(t *testing.T) {
	for cell := range 16 {
		for _, x := range []int{0, mostValue} {
			v := over(four{10, 20, 30, 40})
			v.Was[cell], v.Now[cell] = x, x
			v.Now[1], v.Now[2] = 21, 31
			left := v
			left.Now[1], left.Now[2] = 16, 36
			checkDone(t, "at an edge", v, transfer(1, 2, 5), api.Answer{Num: 15}, left)
			checkDone(t, "at an edge", only(v, 1, 2), transfer(1, 2, 5), api.Answer{Num: 15}, only(left, 1, 2))
		}
	}
}

func TestViewsThatMayNotBe(t *testing.T) {
	good := over(four{10, 20, 30, 40})
	for cell := range 16 {
		for _, x := range []int{leastInt, -mostValue, -1 << 32, -2, -1, mostValue + 1, mostValue + 2, 1 << 41, 1 << 62, mostInt} {
			was, now := good, good
			was.Was[cell], now.Now[cell] = x, x
			name := "cell " + strconv.Itoa(cell) + " of " + strconv.Itoa(x)
			for _, o := range each() {
				for _, v := range []api.View{was, now} {
					checkRefused(t, name, v, o)
					checkRefused(t, name+", not known", without(v, cell), o)
					checkRefused(t, name+", none known", only(v), o)
				}
			}
		}
	}
}

// checkRefusedAnywhere looks that an operation may not be, whatever is known.
func checkRefusedAnywhere(t *testing.T, o api.Op) {
	t.Helper()
	v := over(four{10, 20, 30, 40})
	bad := v
	bad.Now[7] = -1
	for _, v := range []api.View{v, over(four{shut, shut, shut, shut}), only(v), {}, bad} {
		checkRefused(t, "wrong", v, o)
	}
}

func TestOperationsThatMayNotBe(t *testing.T) {
	for _, far := range []int{leastInt, -1 << 32, -100, -2, -1, 1048576, 1048577, 1 << 32, 1<<32 + 1, mostInt - 1, mostInt} {
		for _, o := range each() {
			a, b, x := o, o, o
			a.A, b.B, x.X = far, far, far
			checkRefusedAnywhere(t, a)
			checkRefusedAnywhere(t, b)
			checkRefusedAnywhere(t, x)
		}
	}
	for _, k := range []int{4, 5, 6, 15, 16} {
		for _, o := range []api.Op{open(k, 3), closing(k), deposit(k, 3), withdraw(k, 3), transfer(k, 1, 3), transfer(1, k, 3), transfer(k, k, 3)} {
			checkRefusedAnywhere(t, o)
		}
	}
}

// A field that an operation has no use for must be zero.
func TestOperationsWithFieldsTooMany(t *testing.T) {
	for _, o := range []api.Op{
		{Kind: 0, A: 1, B: 1, X: 3},
		{Kind: 1, A: 1, B: 1},
		{Kind: 1, A: 1, X: 1},
		{Kind: 2, A: 1, B: 1, X: 3},
		{Kind: 3, A: 1, B: 1, X: 3},
		{Kind: 5, A: 1},
		{Kind: 5, B: 1},
		{Kind: 5, X: 1},
	} {
		checkRefusedAnywhere(t, o)
	}
}

func TestOperationsOfOtherKinds(t *testing.T) {
	for _, kind := range []int{6, 7, 8, 9, 10, 11, 12, 16, 256, 1 << 32, mostInt, -1, -2, -6, -256, leastInt} {
		for _, o := range []api.Op{{}, {A: 1}, {X: 1}, {A: 1, X: 1}, {A: 1, B: 2}, {A: 1, B: 2, X: 3}} {
			o.Kind = kind
			checkRefusedAnywhere(t, o)
		}
	}
}

// What one answer is changed to is not seen in what was handed in, in another answer, nor in a later one.
func TestAnswersAreTheirOwnMemory(t *testing.T) {
	v := over(four{10, 20, 30, 40})
	for _, o := range append(each(), withdraw(1, 500), transfer(1, 1, 5)) {
		first, _ := Do(v, o)
		second, _ := Do(v, o)
		answer, left := second.Answers[0], second.View
		full := first.Answers[:cap(first.Answers)]
		for i := range full {
			full[i] = api.Answer{Code: -7, Num: -7}
		}
		first.View = api.View{}
		if second.Answers[0] != answer || second.View != left {
			t.Errorf("R4: %+v: a change in one answer is seen in another one: %+v", o, second)
		}
		checkDone(t, "again", v, o, answer, left)
	}
	if v != over(four{10, 20, 30, 40}) {
		t.Errorf("R4: what was handed in is %+v", v)
	}
}

// One operation behind the other: each upon the view that the one ahead left.
func TestOperationsOneBehindTheOther(t *testing.T) {
	v := over(four{shut, 20, shut, shut})
	for _, r := range []row{
		{op: open(0, 50), num: 50, has: four{50, 20, shut, shut}},
		{op: transfer(0, 1, 30), num: 20, has: four{20, 50, shut, shut}},
		{op: transfer(0, 1, 30), code: 3, has: four{20, 50, shut, shut}},
		{op: withdraw(1, 50), num: 0, has: four{20, 0, shut, shut}},
		{op: open(1, 1), code: 1, has: four{20, 0, shut, shut}},
		{op: closing(1), num: 0, has: four{20, shut, shut, shut}},
		{op: deposit(1, 1), code: 2, has: four{20, shut, shut, shut}},
		{op: open(1, 0), num: 0, has: four{20, 0, shut, shut}},
		{op: deposit(1, 1048575), num: 1048575, has: four{20, 1048575, shut, shut}},
		{op: sum(), num: 1048595, has: four{20, 1048575, shut, shut}},
	} {
		left := becomes(v, r.has)
		checkDone(t, "behind", v, r.op, api.Answer{Code: r.code, Num: r.num}, left)
		ask, _ := Do(v, r.op)
		v = ask.View
	}
}

func TestCallsFromSeveralGoroutines(t *testing.T) {
	var wg sync.WaitGroup
	for n := range 4 {
		wg.Go(func() {
			for x := range 200 {
				had, has := four{500, 500, 500, 500}, four{500, 500, 500, 500}
				has[n], has[(n+1)%4] = 500-x, 500+x
				checkRow(t, row{"at one time", had, transfer(n, (n+1)%4, x), 0, 500 - x, has})
				checkRow(t, row{"at one time", had, sum(), 0, 2000, had})
				checkNeed(t, without(over(had), n), deposit(n, x), n)
				checkRefused(t, "at one time", over(had), deposit(n, -1-x))
			}
		})
	}
	wg.Wait()
}
