package model_test

import (
	"slices"
	"strconv"
	"sync"
	"testing"

	"pawl/api"
	"pawl/body"
	"pawl/model"
)

const (
	leastInt    = -1 << 63
	mostInt     = 1<<63 - 1
	mostBalance = 1048575
	// shut is how the tests write the balance of an account that is closed.
	shut = -1
)

// four are the accounts' balances, in their row.
type four = [4]int

// row is a transaction upon a state, and what comes of it, worked out by hand.
type row struct {
	had     api.State
	ops     []api.Op
	answers []api.Answer
	has     api.State
}

// state is that of these balances, with these keys in.
func state(balances four, keys ...int) api.State {
	s := api.State{Balances: balances}
	for _, key := range keys {
		s.In[key] = true
	}
	return s
}

// some is a state that most of the tests begin with.
func some() api.State {
	return state(four{10, 20, shut, mostBalance}, 1, 3)
}

// with is s with another balance of one account.
func with(s api.State, account int, balance int) api.State {
	s.Balances[account] = balance
	return s
}

// keyed is s with these keys, and no others.
func keyed(s api.State, keys ...int) api.State {
	return state(s.Balances, keys...)
}

// checkDone looks that ops upon s have these answers, and leave that state.
func checkDone(t *testing.T, s api.State, ops []api.Op, answers []api.Answer, left api.State) {
	t.Helper()
	has, got, e := model.Do(s, ops...)
	if e != api.OK || has != left || !slices.Equal(got, answers) {
		t.Errorf("P8.1: %+v upon %v: %v, answers %v, error %d, want %v, %v", ops, s, has, got, e, left, answers)
	}
}

// checkRow looks that a row's transaction does what the row says.
func checkRow(t *testing.T, r row) {
	t.Helper()
	checkDone(t, r.had, r.ops, r.answers, r.has)
}

// checkOne looks that one operation is done, with that number, and leaves that state.
func checkOne(t *testing.T, s api.State, o api.Op, num int, left api.State) {
	t.Helper()
	checkDone(t, s, of(o), nums(num), left)
}

// checkEnd looks that one operation is refused by that code, and leaves the state as it was.
func checkEnd(t *testing.T, s api.State, o api.Op, code int) {
	t.Helper()
	checkDone(t, s, of(o), ends(code), s)
}

// checkRefused looks that ops upon s may not be.
func checkRefused(t *testing.T, name string, s api.State, ops ...api.Op) {
	t.Helper()
	has, answers, e := model.Do(s, ops...)
	if e != api.ErrModelForm || has != (api.State{}) || len(answers) != 0 {
		t.Errorf("P8.1: %s: %+v upon %v: %v, answers %v, error %d", name, ops, s, has, answers, e)
	}
}

func open(a int, x int) api.Op            { return api.Op{Kind: 0, A: a, X: x} }
func closing(a int) api.Op                { return api.Op{Kind: 1, A: a} }
func deposit(a int, x int) api.Op         { return api.Op{Kind: 2, A: a, X: x} }
func withdraw(a int, x int) api.Op        { return api.Op{Kind: 3, A: a, X: x} }
func transfer(a int, b int, x int) api.Op { return api.Op{Kind: 4, A: a, B: b, X: x} }
func sum() api.Op                         { return api.Op{Kind: 5} }
func insert(a int, x int) api.Op          { return api.Op{Kind: 6, A: a, X: x} }
func erase(a int) api.Op                  { return api.Op{Kind: 7, A: a} }
func find(a int) api.Op                   { return api.Op{Kind: 8, A: a} }
func least() api.Op                       { return api.Op{Kind: 9} }
func span(a int, b int) api.Op            { return api.Op{Kind: 10, A: a, B: b} }

// of are the operations of a transaction.
func of(ops ...api.Op) []api.Op { return ops }

// nums are the answers of operations that are done.
func nums(numbers ...int) []api.Answer {
	var answers []api.Answer
	for _, num := range numbers {
		answers = append(answers, api.Answer{Num: num})
	}
	return answers
}

// ends are the answers of operations of which the last one is refused.
func ends(code int, numbers ...int) []api.Answer {
	return append(nums(numbers...), api.Answer{Code: code})
}

// each is one operation of each kind; of some() each of them is done.
func each() []api.Op {
	return of(open(2, 5), closing(1), deposit(1, 5), withdraw(1, 5), transfer(1, 0, 5), sum(), insert(2, 1), erase(3), find(3), least(), span(1, 3))
}

// every are operations of all kinds, done and refused in many ways.
func every() []api.Op {
	all := of(sum(), least(), transfer(0, 3, 1), transfer(3, 0, mostBalance), transfer(2, 1, 0), transfer(1, 0, 21))
	for k := range 4 {
		all = append(all, open(k, 7), closing(k), deposit(k, 9), withdraw(k, 11), transfer(k, (k+1)%4, 10), transfer(k, k, 8))
	}
	for k := range 5 {
		all = append(all, insert(k, 0), insert(k, 1), erase(k), find(k), span(k, 3), span(1, k))
	}
	return all
}

// states are what each transaction of every is tried upon.
func states() []api.State {
	return []api.State{
		some(),
		state(four{shut, shut, shut, shut}),
		state(four{0, 0, 0, 0}, 0, 1, 2, 3, 4),
		state(four{mostBalance, 11, shut, 10}, 0, 4),
		state(four{8, mostBalance - 9, 19, 20}, 0, 2, 4),
		state(four{9, shut, 7, shut}, 1, 2, 3),
		state(four{shut, 1, shut, 0}, 2),
	}
}

// wrong are operations that may not be: each kind's, just beyond an edge, with a field too many, and of kinds that are none.
func wrong() []api.Op {
	all := of(transfer(0, 4, 1), transfer(0, -1, 1), span(0, 5), span(0, -1), transfer(4, 0, 1), span(5, 0))
	for _, kind := range []int{leastInt, -256, -11, -2, -1, 11, 12, 16, 256, 1 << 32, 1<<32 + 5, mostInt} {
		all = append(all, api.Op{Kind: kind}, api.Op{Kind: kind, A: 1}, api.Op{Kind: kind, A: 1, B: 2, X: 3})
	}
	for _, k := range kinds() {
		for _, x := range []int{leastInt, -1 << 32, -2, -1, 1 << 32, mostInt} {
			all = append(all, api.Op{Kind: k.number, A: x}, api.Op{Kind: k.number, B: x}, api.Op{Kind: k.number, X: x})
		}
		for _, more := range []int{1, 2, 3} {
			all = append(all, api.Op{Kind: k.number, A: k.a + more}, api.Op{Kind: k.number, B: k.b + more}, api.Op{Kind: k.number, X: k.x + more})
		}
	}
	return all
}

// kind is a kind of operation, and the most that A, B and X may be there.
type kind struct {
	number, a, b, x int
}

func kinds() []kind {
	return []kind{
		{0, 3, 0, 1048575},
		{1, 3, 0, 0},
		{2, 3, 0, 1048575},
		{3, 3, 0, 1048575},
		{4, 3, 3, 1048575},
		{5, 0, 0, 0},
		{6, 4, 0, 1},
		{7, 4, 0, 0},
		{8, 4, 0, 0},
		{9, 0, 0, 0},
		{10, 4, 4, 0},
	}
}

func TestNew(t *testing.T) {
	want := api.State{Balances: four{-1, -1, -1, -1}, In: [5]bool{false, false, false, false, false}}
	s := model.New()
	if s != want {
		t.Errorf("P8.1: New tells %v", s)
	}
	s.Balances[1], s.In[2] = 7, true
	if again := model.New(); again != want {
		t.Errorf("R5: New tells %v, when what it told ahead was changed", again)
	}
}

func TestOneOperationUponNew(t *testing.T) {
	for a := range 4 {
		checkOne(t, model.New(), open(a, 0), 0, with(model.New(), a, 0))
		checkOne(t, model.New(), open(a, mostBalance), mostBalance, with(model.New(), a, mostBalance))
		checkEnd(t, model.New(), closing(a), 2)
		checkEnd(t, model.New(), deposit(a, 0), 2)
		checkEnd(t, model.New(), withdraw(a, 0), 2)
		for b := range 4 {
			checkEnd(t, model.New(), transfer(a, b, 0), 2)
		}
	}
	for a := range 5 {
		checkOne(t, model.New(), insert(a, 0), a, keyed(model.New(), a))
		checkOne(t, model.New(), insert(a, 1), a, keyed(model.New(), a))
		checkEnd(t, model.New(), erase(a), 2)
		checkOne(t, model.New(), find(a), 0, model.New())
		for b := range 5 {
			checkOne(t, model.New(), span(a, b), 0, model.New())
		}
	}
	checkOne(t, model.New(), sum(), 0, model.New())
	checkEnd(t, model.New(), least(), 2)
}

func TestOneOperation(t *testing.T) {
	for _, r := range []row{
		{some(), of(open(2, 7)), nums(7), with(some(), 2, 7)},
		{some(), of(open(0, 7)), ends(1), some()},
		{some(), of(closing(1)), nums(20), with(some(), 1, shut)},
		{some(), of(closing(2)), ends(2), some()},
		{some(), of(deposit(1, 5)), nums(25), with(some(), 1, 25)},
		{some(), of(deposit(2, 5)), ends(2), some()},
		{some(), of(deposit(3, 1)), ends(4), some()},
		{some(), of(withdraw(1, 20)), nums(0), with(some(), 1, 0)},
		{some(), of(withdraw(2, 0)), ends(2), some()},
		{some(), of(withdraw(1, 21)), ends(3), some()},
		{some(), of(transfer(1, 0, 4)), nums(16), state(four{14, 16, shut, mostBalance}, 1, 3)},
		{some(), of(transfer(1, 1, 4)), nums(20), some()},
		{some(), of(transfer(0, 2, 0)), ends(2), some()},
		{some(), of(transfer(2, 0, 0)), ends(2), some()},
		{some(), of(transfer(0, 1, 11)), ends(3), some()},
		{some(), of(transfer(0, 3, 1)), ends(4), some()},
		{some(), of(sum()), nums(1048605), some()},
		{some(), of(insert(2, 0)), nums(2), keyed(some(), 1, 2, 3)},
		{some(), of(insert(2, 1)), nums(2), keyed(some(), 1, 2, 3)},
		{some(), of(insert(3, 0)), ends(1), some()},
		{some(), of(erase(3)), nums(3), keyed(some(), 1)},
		{some(), of(erase(2)), ends(2), some()},
		{some(), of(find(1)), nums(1), some()},
		{some(), of(find(2)), nums(0), some()},
		{some(), of(least()), nums(1), some()},
		{keyed(some()), of(least()), ends(2), keyed(some())},
		{some(), of(span(0, 4)), nums(10), some()},
		{some(), of(span(4, 0)), nums(0), some()},
	} {
		checkRow(t, r)
	}
}

// frames are states about account a, whose balance each test puts in: its neighbours are of many kinds, so that one that is taken for it is found.
func frames() []api.State {
	return []api.State{
		state(four{shut, shut, shut, shut}, 0, 1, 2, 3, 4),
		state(four{0, 0, 0, 0}),
		state(four{500, 600, 700, 800}, 0, 2),
		state(four{mostBalance, mostBalance, mostBalance, mostBalance}, 4),
	}
}

func TestOpenAndCloseEachAccount(t *testing.T) {
	for _, s := range frames() {
		for a := range 4 {
			out := with(s, a, shut)
			for _, x := range []int{0, 1, 9, mostBalance - 1, mostBalance} {
				in := with(s, a, x)
				checkOne(t, out, open(a, x), x, in)
				checkOne(t, in, closing(a), x, out)
				checkEnd(t, in, open(a, 0), 1)
				checkEnd(t, in, open(a, x), 1)
				checkEnd(t, in, open(a, mostBalance), 1)
			}
			checkEnd(t, out, closing(a), 2)
		}
	}
}

func TestDepositToEachAccount(t *testing.T) {
	for _, s := range frames() {
		for a := range 4 {
			for _, c := range []struct{ had, x, has int }{
				{0, 0, 0}, {0, 1, 1}, {5, 0, 5}, {5, 7, 12}, {0, 1048574, 1048574}, {0, 1048575, 1048575},
				{1, 1048574, 1048575}, {1048574, 1, 1048575}, {1048575, 0, 1048575}, {1048574, 0, 1048574}, {500000, 548575, 1048575},
			} {
				checkOne(t, with(s, a, c.had), deposit(a, c.x), c.has, with(s, a, c.has))
			}
			for _, c := range []struct{ had, x int }{
				{1048575, 1}, {1048574, 2}, {1, 1048575}, {2, 1048574}, {500000, 548576}, {1048575, 1048575},
			} {
				checkEnd(t, with(s, a, c.had), deposit(a, c.x), 4)
			}
			for _, x := range []int{0, 1, 7, mostBalance} {
				checkEnd(t, with(s, a, shut), deposit(a, x), 2)
			}
		}
	}
}

func TestWithdrawFromEachAccount(t *testing.T) {
	for _, s := range frames() {
		for a := range 4 {
			for _, c := range []struct{ had, x, has int }{
				{0, 0, 0}, {1, 0, 1}, {1, 1, 0}, {12, 5, 7}, {12, 12, 0}, {1048575, 0, 1048575},
				{1048575, 1, 1048574}, {1048575, 1048574, 1}, {1048575, 1048575, 0}, {1048574, 1048574, 0},
			} {
				checkOne(t, with(s, a, c.had), withdraw(a, c.x), c.has, with(s, a, c.has))
			}
			for _, c := range []struct{ had, x int }{
				{0, 1}, {0, 1048575}, {1, 2}, {12, 13}, {12, 1000}, {1048573, 1048574}, {1048574, 1048575},
			} {
				checkEnd(t, with(s, a, c.had), withdraw(a, c.x), 3)
			}
			for _, x := range []int{0, 1, 7, mostBalance} {
				checkEnd(t, with(s, a, shut), withdraw(a, x), 2)
			}
		}
	}
}

// move is a transfer from one account to another one: the balances ahead of it, and behind it, or the code of its refusal.
type move struct {
	from, to, x, fromHas, toHas, code int
}

func TestTransferFromEachAccountToEach(t *testing.T) {
	for _, s := range frames() {
		for a := range 4 {
			for b := range 4 {
				if a == b {
					checkTransfersToItself(t, s, a)
					continue
				}
				checkTransfers(t, s, a, b)
			}
		}
	}
}

func checkTransfers(t *testing.T, s api.State, a int, b int) {
	t.Helper()
	const most = mostBalance
	for _, m := range []move{
		{0, 0, 0, 0, 0, 0},
		{9, 4, 0, 9, 4, 0},
		{9, 4, 3, 6, 7, 0},
		{9, 4, 9, 0, 13, 0},
		{9, 4, 10, 0, 0, 3},
		{0, 4, 1, 0, 0, 3},
		{0, most, 1, 0, 0, 3},
		{9, most, 10, 0, 0, 3},
		{9, most, 0, 9, most, 0},
		{9, most, 1, 0, 0, 4},
		{9, most - 8, 8, 1, most, 0},
		{9, most - 8, 9, 0, 0, 4},
		{most, 0, most, 0, most, 0},
		{most, 1, most, 0, 0, 4},
		{most, 1, most - 1, 1, most, 0},
		{most, most, most, 0, 0, 4},
		{most, most, 0, most, most, 0},
		{most - 1, 0, most, 0, 0, 3},
		{shut, 4, 0, 0, 0, 2},
		{shut, 4, 5, 0, 0, 2},
		{shut, most, most, 0, 0, 2},
		{9, shut, 0, 0, 0, 2},
		{9, shut, 9, 0, 0, 2},
		{9, shut, 10, 0, 0, 2},
		{shut, shut, 0, 0, 0, 2},
		{shut, shut, most, 0, 0, 2},
	} {
		had := with(with(s, a, m.from), b, m.to)
		if m.code != 0 {
			checkEnd(t, had, transfer(a, b, m.x), m.code)
			continue
		}
		checkOne(t, had, transfer(a, b, m.x), m.fromHas, with(with(s, a, m.fromHas), b, m.toHas))
	}
}

func checkTransfersToItself(t *testing.T, s api.State, a int) {
	t.Helper()
	for _, c := range []struct{ had, x int }{{0, 0}, {9, 0}, {9, 3}, {9, 9}, {mostBalance, 1}, {mostBalance, mostBalance}, {mostBalance - 1, 2}} {
		checkOne(t, with(s, a, c.had), transfer(a, a, c.x), c.had, with(s, a, c.had))
	}
	for _, c := range []struct{ had, x int }{{0, 1}, {9, 10}, {0, mostBalance}, {mostBalance - 1, mostBalance}} {
		checkEnd(t, with(s, a, c.had), transfer(a, a, c.x), 3)
	}
	for _, x := range []int{0, 1, mostBalance} {
		checkEnd(t, with(s, a, shut), transfer(a, a, x), 2)
	}
}

func TestSum(t *testing.T) {
	const most = mostBalance
	for _, c := range []struct {
		balances four
		num      int
	}{
		{four{shut, shut, shut, shut}, 0},
		{four{0, 0, 0, 0}, 0},
		{four{1, 20, 300, 4000}, 4321},
		{four{shut, 20, 300, 4000}, 4320},
		{four{1, shut, 300, 4000}, 4301},
		{four{1, 20, shut, 4000}, 4021},
		{four{1, 20, 300, shut}, 321},
		{four{5, shut, shut, shut}, 5},
		{four{shut, 5, shut, shut}, 5},
		{four{shut, shut, 5, shut}, 5},
		{four{shut, shut, shut, 5}, 5},
		{four{shut, 0, shut, 0}, 0},
		{four{most, most, most, most}, 4194300},
		{four{most, shut, 0, most}, 2097150},
	} {
		for _, s := range []api.State{state(c.balances), state(c.balances, 1, 4), state(c.balances, 0, 1, 2, 3, 4)} {
			checkOne(t, s, sum(), c.num, s)
		}
	}
}

// bit is a key's.
func bit(key int) int {
	return []int{1, 2, 4, 8, 16}[key]
}

// keysOf are the keys whose bits a number has.
func keysOf(bits int) []int {
	var keys []int
	for key := range 5 {
		if bits&bit(key) != 0 {
			keys = append(keys, key)
		}
	}
	return keys
}

// Each of the 32 sets of keys, and each key, that is in or out.
func TestEachKeyOfEachSet(t *testing.T) {
	for bits := range 32 {
		s := keyed(some(), keysOf(bits)...)
		for key := range 5 {
			if bits&bit(key) != 0 {
				checkOne(t, s, find(key), 1, s)
				checkEnd(t, s, insert(key, 0), 1)
				checkEnd(t, s, insert(key, 1), 1)
				checkOne(t, s, erase(key), key, keyed(some(), keysOf(bits-bit(key))...))
				continue
			}
			checkOne(t, s, find(key), 0, s)
			checkEnd(t, s, erase(key), 2)
			checkOne(t, s, insert(key, 0), key, keyed(some(), keysOf(bits+bit(key))...))
			checkOne(t, s, insert(key, 1), key, keyed(some(), keysOf(bits+bit(key))...))
		}
	}
}

func TestLeastOfEachSet(t *testing.T) {
	checkEnd(t, keyed(some()), least(), 2)
	for bits := 1; bits < 32; bits++ {
		s := keyed(some(), keysOf(bits)...)
		checkOne(t, s, least(), keysOf(bits)[0], s)
	}
	for key := range 5 {
		checkOne(t, keyed(some(), key), least(), key, keyed(some(), key))
	}
	checkOne(t, keyed(some(), 0, 1, 2, 3, 4), least(), 0, keyed(some(), 0, 1, 2, 3, 4))
}

func TestRangesByHand(t *testing.T) {
	none, one, all := keyed(some()), keyed(some(), 2), keyed(some(), 0, 1, 2, 3, 4)
	for _, c := range []struct {
		s         api.State
		a, b, num int
	}{
		{none, 0, 4, 0}, {none, 2, 2, 0}, {none, 4, 0, 0},
		{one, 0, 4, 4}, {one, 2, 2, 4}, {one, 0, 2, 4}, {one, 2, 4, 4}, {one, 0, 1, 0}, {one, 3, 4, 0}, {one, 4, 0, 0}, {one, 3, 2, 0}, {one, 2, 1, 0},
		{all, 0, 4, 31}, {all, 0, 0, 1}, {all, 1, 1, 2}, {all, 2, 2, 4}, {all, 3, 3, 8}, {all, 4, 4, 16}, {all, 1, 3, 14}, {all, 0, 3, 15}, {all, 1, 4, 30},
		{all, 4, 0, 0}, {all, 1, 0, 0}, {all, 4, 3, 0}, {all, 3, 1, 0},
		{some(), 0, 0, 0}, {some(), 0, 1, 2}, {some(), 1, 2, 2}, {some(), 1, 3, 10}, {some(), 2, 3, 8}, {some(), 2, 2, 0}, {some(), 3, 1, 0},
	} {
		checkOne(t, c.s, span(c.a, c.b), c.num, c.s)
	}
}

func TestRangesOfEachSet(t *testing.T) {
	for bits := range 32 {
		s := keyed(some(), keysOf(bits)...)
		for a := range 5 {
			for b := range 5 {
				num := 0
				for _, key := range keysOf(bits) {
					if a <= key && key <= b {
						num += bit(key)
					}
				}
				checkOne(t, s, span(a, b), num, s)
			}
		}
	}
}

// What is done upon accounts says nothing of keys, and the other way round.
func TestAccountsAndKeysApart(t *testing.T) {
	for _, keys := range [][]int{{}, {0}, {4}, {0, 1, 2, 3, 4}} {
		checkOne(t, state(four{1, 2, 3, shut}, keys...), open(3, 4), 4, state(four{1, 2, 3, 4}, keys...))
		checkOne(t, state(four{1, 2, 3, 4}, keys...), closing(0), 1, state(four{shut, 2, 3, 4}, keys...))
		checkOne(t, state(four{1, 2, 3, 4}, keys...), transfer(3, 0, 4), 0, state(four{5, 2, 3, 0}, keys...))
	}
	for _, balances := range []four{{shut, shut, shut, shut}, {0, 0, 0, 0}, {mostBalance, mostBalance, mostBalance, mostBalance}} {
		checkOne(t, state(balances, 1), insert(0, 1), 0, state(balances, 0, 1))
		checkOne(t, state(balances, 1, 4), erase(4), 4, state(balances, 1))
		checkOne(t, state(balances, 1, 4), span(1, 4), 18, state(balances, 1, 4))
	}
}

func TestTwoOfAccounts(t *testing.T) {
	const most = mostBalance
	had := some()
	for _, r := range []row{
		{had, of(open(2, 7), deposit(2, 3)), nums(7, 10), with(had, 2, 10)},
		{had, of(open(2, 0), sum()), nums(0, 1048605), with(had, 2, 0)},
		{had, of(open(2, most), deposit(2, 0)), nums(most, most), with(had, 2, most)},
		{had, of(open(2, 6), transfer(2, 0, 6)), nums(6, 0), state(four{16, 20, 0, most}, 1, 3)},
		{had, of(open(2, 1), transfer(0, 2, 4)), nums(1, 6), state(four{6, 20, 5, most}, 1, 3)},
		{had, of(open(2, 4), transfer(2, 2, 4)), nums(4, 4), with(had, 2, 4)},
		{had, of(open(2, 9), closing(2)), nums(9, 9), had},
		{had, of(closing(1), open(1, 3)), nums(20, 3), with(had, 1, 3)},
		{had, of(closing(3), sum()), nums(most, 30), with(had, 3, shut)},
		{had, of(sum(), closing(3)), nums(1048605, most), with(had, 3, shut)},
		{had, of(deposit(0, 5), withdraw(0, 15)), nums(15, 0), with(had, 0, 0)},
		{had, of(withdraw(0, 5), deposit(0, 5)), nums(5, 10), had},
		{had, of(withdraw(3, 5), deposit(3, 5)), nums(1048570, most), had},
		{had, of(withdraw(3, 5), transfer(0, 3, 5)), nums(1048570, 5), with(had, 0, 5)},
		{had, of(transfer(0, 1, 4), transfer(1, 0, 24)), nums(6, 0), state(four{30, 0, shut, most}, 1, 3)},
		{had, of(transfer(1, 0, 20), withdraw(0, 30)), nums(0, 0), state(four{0, 0, shut, most}, 1, 3)},
		{had, of(deposit(0, 1), deposit(1, 1)), nums(11, 21), state(four{11, 21, shut, most}, 1, 3)},
		{had, of(closing(0), closing(1)), nums(10, 20), state(four{shut, shut, shut, most}, 1, 3)},
	} {
		checkRow(t, r)
	}
}

func TestTwoOfKeys(t *testing.T) {
	had := some()
	for _, r := range []row{
		{had, of(insert(2, 0), find(2)), nums(2, 1), keyed(had, 1, 2, 3)},
		{had, of(insert(2, 1), erase(2)), nums(2, 2), had},
		{had, of(insert(0, 1), least()), nums(0, 0), keyed(had, 0, 1, 3)},
		{had, of(least(), insert(0, 1)), nums(1, 0), keyed(had, 0, 1, 3)},
		{had, of(insert(4, 0), span(0, 4)), nums(4, 26), keyed(had, 1, 3, 4)},
		{had, of(insert(2, 1), insert(4, 1)), nums(2, 4), keyed(had, 1, 2, 3, 4)},
		{had, of(insert(4, 1), insert(2, 1)), nums(4, 2), keyed(had, 1, 2, 3, 4)},
		{had, of(erase(3), insert(3, 0)), nums(3, 3), had},
		{had, of(erase(1), least()), nums(1, 3), keyed(had, 3)},
		{had, of(erase(3), erase(1)), nums(3, 1), keyed(had)},
		{had, of(erase(3), find(3)), nums(3, 0), keyed(had, 1)},
		{had, of(find(3), erase(3)), nums(1, 3), keyed(had, 1)},
		{had, of(span(0, 4), erase(1)), nums(10, 1), keyed(had, 3)},
		{had, of(find(4), span(2, 4)), nums(0, 8), had},
	} {
		checkRow(t, r)
	}
}

func TestOneOfAccountsAndOneOfKeys(t *testing.T) {
	const most = mostBalance
	had := some()
	for _, r := range []row{
		{had, of(deposit(0, 5), insert(2, 1)), nums(15, 2), state(four{15, 20, shut, most}, 1, 2, 3)},
		{had, of(insert(2, 1), deposit(0, 5)), nums(2, 15), state(four{15, 20, shut, most}, 1, 2, 3)},
		{had, of(open(2, 8), erase(1)), nums(8, 1), state(four{10, 20, 8, most}, 3)},
		{had, of(erase(3), closing(3)), nums(3, most), state(four{10, 20, shut, shut}, 1)},
		{had, of(transfer(1, 0, 20), span(0, 4)), nums(0, 10), state(four{30, 0, shut, most}, 1, 3)},
		{had, of(insert(0, 0), sum()), nums(0, 1048605), keyed(had, 0, 1, 3)},
		{had, of(sum(), least()), nums(1048605, 1), had},
		{had, of(find(2), withdraw(1, 1)), nums(0, 19), with(had, 1, 19)},
	} {
		checkRow(t, r)
	}
}

func TestTheSameTwice(t *testing.T) {
	had := some()
	for _, r := range []row{
		{had, of(open(2, 7), open(2, 7)), ends(1, 7), had},
		{had, of(closing(1), closing(1)), ends(2, 20), had},
		{had, of(deposit(0, 5), deposit(0, 5)), nums(15, 20), with(had, 0, 20)},
		{had, of(deposit(0, 524283), deposit(0, 524283)), ends(4, 524293), had},
		{had, of(withdraw(1, 10), withdraw(1, 10)), nums(10, 0), with(had, 1, 0)},
		{had, of(withdraw(1, 11), withdraw(1, 11)), ends(3, 9), had},
		{had, of(transfer(1, 0, 5), transfer(1, 0, 5)), nums(15, 10), state(four{20, 10, shut, mostBalance}, 1, 3)},
		{had, of(transfer(0, 1, 6), transfer(0, 1, 6)), ends(3, 4), had},
		{had, of(transfer(1, 1, 20), transfer(1, 1, 20)), nums(20, 20), had},
		{had, of(sum(), sum()), nums(1048605, 1048605), had},
		{had, of(insert(2, 0), insert(2, 0)), ends(1, 2), had},
		{had, of(insert(2, 1), insert(2, 1)), ends(1, 2), had},
		{had, of(erase(3), erase(3)), ends(2, 3), had},
		{had, of(find(1), find(1)), nums(1, 1), had},
		{had, of(find(2), find(2)), nums(0, 0), had},
		{had, of(least(), least()), nums(1, 1), had},
		{had, of(span(2, 4), span(2, 4)), nums(8, 8), had},
		{keyed(had), of(least(), least()), ends(2), keyed(had)},
	} {
		checkRow(t, r)
	}
}

// Of a transaction whose last operation is refused nothing is left, but all answers are told.
func TestRefusedAtTheLastPlace(t *testing.T) {
	for _, r := range []row{
		{some(), of(open(2, 7), open(0, 1)), ends(1, 7), some()},
		{some(), of(closing(1), deposit(1, 0)), ends(2, 20), some()},
		{some(), of(closing(1), transfer(0, 1, 1)), ends(2, 20), some()},
		{some(), of(deposit(0, 5), withdraw(0, 16)), ends(3, 15), some()},
		{some(), of(withdraw(3, 5), deposit(3, 6)), ends(4, 1048570), some()},
		{some(), of(transfer(3, 1, 1), deposit(3, 2)), ends(4, 1048574), some()},
		{some(), of(transfer(3, 1, 1), transfer(1, 3, 2)), ends(4, 1048574), some()},
		{some(), of(sum(), closing(2)), ends(2, 1048605), some()},
		{some(), of(insert(2, 1), withdraw(0, 11)), ends(3, 2), some()},
		{some(), of(erase(3), deposit(3, 1)), ends(4, 3), some()},
		{some(), of(deposit(0, 5), insert(1, 0)), ends(1, 15), some()},
		{some(), of(withdraw(0, 10), erase(4)), ends(2, 0), some()},
		{some(), of(insert(2, 0), insert(3, 1)), ends(1, 2), some()},
		{some(), of(erase(3), erase(2)), ends(2, 3), some()},
		{keyed(some(), 1), of(erase(1), least()), ends(2, 1), keyed(some(), 1)},
		{some(), of(find(3), open(1, 1)), ends(1, 1), some()},
	} {
		checkRow(t, r)
	}
}

// refusals are operations that are refused upon some() without the key 1, and their codes.
func refusals() []row {
	return []row{
		{ops: of(open(0, 1)), answers: ends(1)},
		{ops: of(closing(2)), answers: ends(2)},
		{ops: of(deposit(2, 1)), answers: ends(2)},
		{ops: of(deposit(3, 1)), answers: ends(4)},
		{ops: of(withdraw(2, 0)), answers: ends(2)},
		{ops: of(withdraw(1, 21)), answers: ends(3)},
		{ops: of(transfer(2, 1, 1)), answers: ends(2)},
		{ops: of(transfer(1, 2, 1)), answers: ends(2)},
		{ops: of(transfer(0, 1, 11)), answers: ends(3)},
		{ops: of(transfer(0, 3, 10)), answers: ends(4)},
		{ops: of(insert(3, 1)), answers: ends(1)},
		{ops: of(erase(1)), answers: ends(2)},
	}
}

// Behind an operation that is refused none is done: it has no answer, and changes nothing. Behind one that is done, a refusal takes all back.
func TestRefusedAtEachPlace(t *testing.T) {
	s, none := keyed(some(), 3), keyed(some())
	for _, r := range refusals() {
		checkDone(t, s, r.ops, r.answers, s)
		for _, behind := range append(every(), r.ops[0]) {
			checkDone(t, s, of(r.ops[0], behind), r.answers, s)
		}
		for _, ahead := range []row{
			{ops: of(sum()), answers: nums(1048605)},
			{ops: of(span(0, 4)), answers: nums(8)},
			{ops: of(deposit(0, 0)), answers: nums(10)},
			{ops: of(transfer(3, 1, 0)), answers: nums(mostBalance)},
			{ops: of(insert(4, 1)), answers: nums(4)},
		} {
			checkDone(t, s, append(ahead.ops, r.ops[0]), append(ahead.answers, r.answers...), s)
		}
	}
	for _, behind := range every() {
		checkDone(t, none, of(least(), behind), ends(2), none)
	}
}

// cellsOf are a state's cells; high has the bits of the keys that stand at level 1, too.
func cellsOf(s api.State, high int) [16]int {
	var xs [16]int
	for k, balance := range s.Balances {
		xs[k] = balance + 1
	}
	for level := range 2 {
		from := 4 + level
		for key, in := range s.In {
			if in && (level == 0 || high&bit(key) != 0) {
				xs[from] = key + 1
				from = 6 + 2*key + level
			}
		}
	}
	return xs
}

// stateOf undoes cellsOf.
func stateOf(xs [16]int) api.State {
	s := api.State{}
	for k := range s.Balances {
		s.Balances[k] = xs[k] - 1
	}
	for link := xs[4]; link > 0; link = xs[6+2*(link-1)] {
		s.In[link-1] = true
	}
	return s
}

// over is a view of a state, all known.
func over(s api.State, high int) api.View {
	v := api.View{Now: cellsOf(s, high)}
	for cell := range 16 {
		v.Known[cell], v.Was[cell] = true, v.Now[cell]
	}
	return v
}

// checkAgainstCells looks that the model tells what layer 7 tells upon the cells of a state.
func checkAgainstCells(t *testing.T, s api.State, high int, ops ...api.Op) {
	t.Helper()
	ask, e := body.Do(over(s, high), ops...)
	if e != api.OK || ask.Need != -1 {
		t.Errorf("P7.1: %+v upon %v: need %d, error %d", ops, s, ask.Need, e)
		return
	}
	checkDone(t, s, ops, ask.Answers, stateOf(ask.View.Now))
}

// T1: whether there are cells or not, the answers are the same, and what is left.
func TestEveryTwoAgainstCells(t *testing.T) {
	for _, s := range states() {
		for _, high := range []int{0, 10, 31} {
			for _, o := range every() {
				checkAgainstCells(t, s, high, o)
				for _, p := range every() {
					checkAgainstCells(t, s, high, o, p)
				}
			}
		}
	}
}

func TestEachSetOfKeysAgainstCells(t *testing.T) {
	for bits := range 32 {
		s := keyed(some(), keysOf(bits)...)
		for _, o := range every() {
			for key := range 5 {
				checkAgainstCells(t, s, 21, insert(key, 1), o)
				checkAgainstCells(t, s, 31, erase(key), o)
			}
		}
	}
}

// A balance that may be, at its edges, in each account, whether an operation asks for it or not.
func TestBalancesAtTheirEdges(t *testing.T) {
	for account := range 4 {
		for _, x := range []int{-1, 0, 1, mostBalance - 1, mostBalance} {
			s := with(some(), account, x)
			checkOne(t, s, find(3), 1, s)
			checkOne(t, s, erase(3), 3, keyed(s, 1))
			checkDone(t, s, of(least(), insert(2, 1)), nums(1, 2), keyed(s, 1, 2, 3))
			for _, o := range each() {
				checkAgainstCells(t, s, 2, o)
				checkAgainstCells(t, s, 2, sum(), o)
				checkAgainstCells(t, s, 2, o, sum())
			}
		}
	}
	for _, x := range []int{-1, 0, mostBalance} {
		s := state(four{x, x, x, x}, 2)
		checkOne(t, s, sum(), max(0, 4*x), s)
	}
}

func TestStatesThatMayNotBe(t *testing.T) {
	for account := range 4 {
		for _, x := range []int{leastInt, -1 << 32, -mostBalance, -3, -2, mostBalance + 1, mostBalance + 2, 1 << 21, 1 << 32, mostInt} {
			name := "balance " + strconv.Itoa(x)
			for _, s := range append(states(), frames()...) {
				s = with(s, account, x)
				for _, o := range every() {
					checkRefused(t, name, s, o)
				}
				for _, o := range append(each(), open(0, 1), erase(2)) {
					checkRefused(t, name, s, o, sum())
					checkRefused(t, name, s, find(3), o)
				}
			}
		}
	}
	for _, x := range []int{-2, mostBalance + 1} {
		checkRefused(t, "all balances", state(four{x, x, x, x}, 1), sum())
	}
}

func TestHowManyOperations(t *testing.T) {
	s := some()
	checkRefused(t, "none", s)
	checkRefused(t, "nil", s, nil...)
	checkRefused(t, "empty", s, []api.Op{}...)
	checkRefused(t, "none of spare room", s, each()[:0]...)
	checkRefused(t, "none upon what may not be", with(s, 0, -2))
	for _, o := range each() {
		if _, answers, e := model.Do(s, o); e != api.OK || len(answers) != 1 {
			t.Errorf("P8.1: %+v: answers %v, error %d", o, answers, e)
		}
		if _, answers, e := model.Do(s, sum(), o); e != api.OK || len(answers) != 2 {
			t.Errorf("P8.1: sum, %+v: answers %v, error %d", o, answers, e)
		}
		for _, n := range []int{3, 4, 5, 8, 16, 100, 70000} {
			checkRefused(t, "too many", s, slices.Repeat(of(o), n)...)
		}
	}
	checkRefused(t, "the first is refused", s, open(0, 1), sum(), sum())
	checkRefused(t, "the second is refused", s, sum(), open(0, 1), sum())
	checkRefused(t, "the third is refused", s, sum(), sum(), open(0, 1))
	checkRefused(t, "the third may not be", s, sum(), sum(), open(4, 1))
}

// An operation that may not be is told wherever it stands, also behind one that is refused.
func TestOperationsThatMayNotBe(t *testing.T) {
	s := some()
	others := append(each(), open(0, 1), closing(2), withdraw(0, 11), deposit(3, 1), insert(1, 0), erase(2))
	for _, o := range wrong() {
		for _, s := range []api.State{s, model.New(), with(s, 2, -2)} {
			checkRefused(t, "alone", s, o)
			checkRefused(t, "twice", s, o, o)
			checkRefused(t, "too many", s, o, o, o)
			for _, other := range others {
				checkRefused(t, "the first", s, o, other)
				checkRefused(t, "the last", s, other, o)
			}
		}
	}
}

// Each field at its edges, of each kind: such an operation is done or refused, but it may be.
func TestOperationsAtTheirEdges(t *testing.T) {
	for _, k := range kinds() {
		for _, o := range of(api.Op{}, api.Op{A: k.a}, api.Op{B: k.b}, api.Op{X: k.x}, api.Op{A: k.a, B: k.b, X: k.x}) {
			o.Kind = k.number
			for _, s := range states() {
				checkAgainstCells(t, s, 5, o)
				checkAgainstCells(t, s, 5, sum(), o)
			}
		}
	}
}

// What is handed in stays as it is, its spare room, too, and nothing of that room is done.
func TestWhatIsHandedInStays(t *testing.T) {
	for _, o := range append(every(), wrong()...) {
		for n := range 4 {
			room := of(deposit(0, 5), o, find(1), erase(3), sum())
			before, s := slices.Clone(room), some()
			has, answers, e := model.Do(s, room[:n]...)
			if !slices.Equal(room, before) || s != some() {
				t.Errorf("R4: %+v, of which %d are handed in, is now %+v; the state is %v", before, n, room, s)
			}
			if len(answers) > n {
				t.Errorf("P8.1: %d operations have the answers %v", n, answers)
			}
			again, same, f := model.Do(some(), before[:n:n]...)
			if has != again || !slices.Equal(answers, same) || e != f {
				t.Errorf("R5: %+v without spare room: %v, %v, %d; with it %v, %v, %d", before[:n], again, same, f, has, answers, e)
			}
		}
	}
}

// What one answer is changed to is not seen in another one, nor in a later one; what was handed in is not kept.
func TestAnswersAreTheirOwnMemory(t *testing.T) {
	s := some()
	for _, o := range every() {
		for _, ops := range [][]api.Op{of(o), of(sum(), o), of(o, o), of(o, sum())} {
			_, first, _ := model.Do(s, ops...)
			left, second, _ := model.Do(s, ops...)
			answers := slices.Clone(second)
			full := first[:cap(first)]
			for i := range full {
				full[i] = api.Answer{Code: -7, Num: -7}
			}
			handed := slices.Clone(ops)
			for i := range ops {
				ops[i] = api.Op{Kind: -1}
			}
			if !slices.Equal(second, answers) {
				t.Errorf("R4: %+v: a change in one answer is seen in another one: %v", handed, second)
			}
			checkDone(t, s, handed, answers, left)
		}
	}
}

// A call keeps nothing: neither one that may not be, nor one that is refused, nor one that is done is seen in the next.
func TestCallsOneBehindTheOther(t *testing.T) {
	r := row{some(), of(insert(2, 1), deposit(0, 5)), nums(2, 15), state(four{15, 20, shut, mostBalance}, 1, 2, 3)}
	for _, o := range append(every(), wrong()...) {
		for _, s := range append(states(), with(some(), 1, -2)) {
			model.Do(s, o)
			checkRow(t, r)
			model.Do(s, sum(), o)
			checkRow(t, r)
			model.Do(s, o, o, o)
			checkRow(t, r)
		}
	}
}

// One transaction behind the other, from New on: each upon the state that the one ahead left.
func TestTransactionsOneBehindTheOther(t *testing.T) {
	s := model.New()
	for _, r := range []row{
		{ops: of(open(0, 50), open(1, 20)), answers: nums(50, 20), has: state(four{50, 20, shut, shut})},
		{ops: of(transfer(0, 1, 30), insert(3, 1)), answers: nums(20, 3), has: state(four{20, 50, shut, shut}, 3)},
		{ops: of(insert(1, 0), transfer(0, 1, 30)), answers: ends(3, 1), has: state(four{20, 50, shut, shut}, 3)},
		{ops: of(insert(1, 0), transfer(1, 0, 30)), answers: nums(1, 20), has: state(four{50, 20, shut, shut}, 1, 3)},
		{ops: of(sum(), span(0, 4)), answers: nums(70, 10), has: state(four{50, 20, shut, shut}, 1, 3)},
		{ops: of(erase(3), closing(0)), answers: nums(3, 50), has: state(four{shut, 20, shut, shut}, 1)},
		{ops: of(erase(1), least()), answers: ends(2, 1), has: state(four{shut, 20, shut, shut}, 1)},
		{ops: of(erase(1)), answers: nums(1), has: state(four{shut, 20, shut, shut})},
		{ops: of(closing(1)), answers: nums(20), has: model.New()},
	} {
		checkDone(t, s, r.ops, r.answers, r.has)
		s, _, _ = model.Do(s, r.ops...)
	}
	if s != model.New() {
		t.Errorf("P8.1: at last the state is %v", s)
	}
}

// The same on and on, of many transactions, beside the cells that layer 7 leaves.
func TestManyTransactionsBesideCells(t *testing.T) {
	s, v, all := model.New(), over(model.New(), 0), every()
	seed := 7
	for range 5000 {
		seed = (seed*1103515245 + 12345) & (1<<31 - 1)
		ops := of(all[seed>>8%len(all)], all[seed>>16%len(all)])[:1+seed>>24%2]
		ask, e := body.Do(v, ops...)
		if e != api.OK || ask.Need != -1 {
			t.Fatalf("P7.1: %+v: need %d, error %d", ops, ask.Need, e)
		}
		v = ask.View
		checkDone(t, s, ops, ask.Answers, stateOf(v.Now))
		s, _, _ = model.Do(s, ops...)
	}
}

func TestCallsFromSeveralGoroutines(t *testing.T) {
	var wg sync.WaitGroup
	for n := range 4 {
		wg.Go(func() {
			for _, o := range every() {
				checkAgainstCells(t, some(), 8, o, deposit(n, n))
				checkRefused(t, "at one time", some(), o, deposit(n, -1-n))
				checkRefused(t, "at one time", with(some(), n, -2), o)
				checkOne(t, model.New(), open(n, n), n, with(model.New(), n, n))
			}
		})
	}
	wg.Wait()
}
