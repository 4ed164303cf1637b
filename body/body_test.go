package body

import (
	"slices"
	"strconv"
	"sync"
	"testing"

	"pawl/api"
	"pawl/bank"
	"pawl/skip"
)

const (
	leastInt    = -1 << 63
	mostInt     = 1<<63 - 1
	mostBalance = 1048575
	mostValue   = 1099511627775
	// shut is how the tests write the balance of an account that is closed.
	shut = -1
)

// four are the accounts' balances, in their row.
type four [4]int

// five tells of each key at how many levels it is in: 0 (it is out), 1 or 2.
type five [5]int

// state is what the cells of a view hold.
type state struct {
	balances four
	keys     five
}

// some is a state that most of the tests begin with.
func some() state {
	return state{four{10, 20, shut, mostBalance}, five{0, 1, 0, 2, 0}}
}

// row is a transaction upon a state, and what comes of it, worked out by hand.
type row struct {
	had     state
	ops     []api.Op
	answers []api.Answer
	has     state
}

// cellsOf are a state's cells.
func cellsOf(s state) [16]int {
	var xs [16]int
	for k, balance := range s.balances {
		xs[k] = balance + 1
	}
	for level := range 2 {
		from := 4 + level
		for key, levels := range s.keys {
			if levels > level {
				xs[from] = key + 1
				from = 6 + 2*key + level
			}
		}
	}
	return xs
}

// over is a view of a state, all known. Was holds numbers of its own.
func over(s state) api.View {
	v := api.View{Now: cellsOf(s)}
	for cell := range 16 {
		v.Known[cell], v.Was[cell] = true, 300+cell
	}
	return v
}

// becomes is v with the cells of that state.
func becomes(v api.View, s state) api.View {
	v.Now = cellsOf(s)
	return v
}

// only is v with just these cells known.
func only(v api.View, known ...int) api.View {
	v.Known = [16]bool{}
	for _, cell := range known {
		v.Known[cell] = true
	}
	return v
}

// without is v with these cells not known.
func without(v api.View, unknown ...int) api.View {
	for _, cell := range unknown {
		v.Known[cell] = false
	}
	return v
}

// checkDone looks that ops upon v have these answers, and leave this view.
func checkDone(t *testing.T, v api.View, ops []api.Op, answers []api.Answer, left api.View) {
	t.Helper()
	got, e := Do(v, ops...)
	if e != api.OK || got.Need != -1 || !slices.Equal(got.Answers, answers) {
		t.Errorf("P7.1: %+v: need %d, answers %v, error %d, want %v", ops, got.Need, got.Answers, e, answers)
	}
	if got.View != left {
		t.Errorf("P7.1: %+v: view %+v, want %+v", ops, got.View, left)
	}
}

// checkRow looks that a row's transaction does what the row says.
func checkRow(t *testing.T, r row) {
	t.Helper()
	v := over(r.had)
	checkDone(t, v, r.ops, r.answers, becomes(v, r.has))
}

// checkNeed looks that ops upon v need that cell, and have done nothing.
func checkNeed(t *testing.T, v api.View, ops []api.Op, cell int) {
	t.Helper()
	got, e := Do(v, ops...)
	if e != api.OK || got.Need != cell || len(got.Answers) != 0 {
		t.Errorf("P7.1: %+v with %v known: need %d, answers %v, error %d, want need %d", ops, v.Known, got.Need, got.Answers, e, cell)
	}
	if got.View != v {
		t.Errorf("P7.1: %+v that need %d: view %+v, want %+v", ops, cell, got.View, v)
	}
}

// checkRefused looks that ops upon v may not be.
func checkRefused(t *testing.T, name string, v api.View, ops ...api.Op) {
	t.Helper()
	got, e := Do(v, ops...)
	if e != api.ErrBodyForm || got.Need != 0 || got.View != (api.View{}) || len(got.Answers) != 0 {
		t.Errorf("P7.1: %s: %+v: need %d, answers %v, view %+v, error %d", name, ops, got.Need, got.Answers, got.View, e)
	}
}

func open(a int, x int) api.Op            { return api.Op{Kind: 0, A: a, X: x} }
func closing(a int) api.Op                { return api.Op{Kind: 1, A: a} }
func deposit(a int, x int) api.Op         { return api.Op{Kind: 2, A: a, X: x} }
func withdraw(a int, x int) api.Op        { return api.Op{Kind: 3, A: a, X: x} }
func transfer(a int, b int, x int) api.Op { return api.Op{Kind: 4, A: a, B: b, X: x} }
func sum() api.Op                         { return api.Op{Kind: 5} }
func insert(a int, x int) api.Op          { return api.Op{Kind: 6, A: a, X: x} }
func erase(a int) api.Op                  { return api.Op{Kind: 7, A: a} }
func find(a int) api.Op                   { return api.Op{Kind: 8, A: a} }
func least() api.Op                       { return api.Op{Kind: 9} }
func span(a int, b int) api.Op            { return api.Op{Kind: 10, A: a, B: b} }

// of are the operations of a transaction.
func of(ops ...api.Op) []api.Op { return ops }

// nums are the answers of operations that are done.
func nums(numbers ...int) []api.Answer {
	var answers []api.Answer
	for _, num := range numbers {
		answers = append(answers, api.Answer{Num: num})
	}
	return answers
}

// ends are the answers of operations of which the last one is refused.
func ends(code int, numbers ...int) []api.Answer {
	return append(nums(numbers...), api.Answer{Code: code})
}

// each is one operation of each kind; of some() each of them is done.
func each() []api.Op {
	return of(open(2, 5), closing(1), deposit(1, 5), withdraw(1, 5), transfer(1, 0, 5), sum(), insert(2, 1), erase(3), find(3), least(), span(1, 3))
}

// every are operations of all kinds, done and refused in many ways.
func every() []api.Op {
	all := of(sum(), least(), transfer(0, 3, 1), transfer(3, 0, mostBalance), transfer(2, 1, 0), transfer(1, 0, 21))
	for k := range 4 {
		all = append(all, open(k, 7), closing(k), deposit(k, 9), withdraw(k, 11), transfer(k, (k+1)%4, 10), transfer(k, k, 8))
	}
	for k := range 5 {
		all = append(all, insert(k, 0), insert(k, 1), erase(k), find(k), span(k, 3), span(1, k))
	}
	return all
}

// states are what each transaction of every is tried upon.
func states() []state {
	return []state{
		some(),
		{four{shut, shut, shut, shut}, five{}},
		{four{0, 0, 0, 0}, five{2, 2, 2, 2, 2}},
		{four{mostBalance, 11, shut, 10}, five{1, 1, 1, 1, 1}},
		{four{8, mostBalance - 9, 19, 20}, five{2, 0, 1, 0, 2}},
		{four{9, shut, 7, shut}, five{0, 2, 1, 2, 1}},
	}
}

func TestCellsOfByHand(t *testing.T) {
	for _, c := range []struct {
		s    state
		want [16]int
	}{
		{state{four{shut, shut, shut, shut}, five{}}, [16]int{}},
		{some(), [16]int{11, 21, 0, 1048576, 2, 4, 0, 0, 4, 0, 0, 0, 0, 0, 0, 0}},
		{state{four{0, 1, 2, 3}, five{2, 1, 0, 2, 1}}, [16]int{1, 2, 3, 4, 1, 1, 2, 4, 4, 0, 0, 0, 5, 0, 0, 0}},
	} {
		if got := cellsOf(c.s); got != c.want {
			t.Errorf("the tests' own cells of %v: %v, want %v", c.s, got, c.want)
		}
	}
}

// kind is a kind of operation, and the most that A, B and X may be there.
type kind struct {
	number, a, b, x int
}

func kinds() []kind {
	return []kind{
		{0, 3, 0, 1048575},
		{1, 3, 0, 0},
		{2, 3, 0, 1048575},
		{3, 3, 0, 1048575},
		{4, 3, 3, 1048575},
		{5, 0, 0, 0},
		{6, 4, 0, 1},
		{7, 4, 0, 0},
		{8, 4, 0, 0},
		{9, 0, 0, 0},
		{10, 4, 4, 0},
	}
}

// amounts are numbers about each limit, and far from any.
func amounts() []int {
	return []int{leastInt, -1048576, -2, -1, 0, 1, 2, 3, 4, 5, 6, 16, 1048574, 1048575, 1048576, 1 << 32, mostInt}
}

// checkMay looks whether o may be, and whether Do takes it, at each place.
func checkMay(t *testing.T, o api.Op, want bool) {
	t.Helper()
	if got := May(o); got != want {
		t.Errorf("P7.1: %+v: may %v", o, got)
	}
	if want {
		if _, e := Do(over(some()), sum(), o); e != api.OK {
			t.Errorf("P7.1: %+v that may be: error %d", o, e)
		}
		return
	}
	checkRefused(t, "alone", over(some()), o)
	checkRefused(t, "the first", over(some()), o, sum())
	checkRefused(t, "the last", over(some()), sum(), o)
}

func TestFieldsKeepTheirLimits(t *testing.T) {
	for _, k := range kinds() {
		for _, a := range amounts() {
			for _, b := range amounts() {
				for _, x := range amounts() {
					want := 0 <= a && a <= k.a && 0 <= b && b <= k.b && 0 <= x && x <= k.x
					checkMay(t, api.Op{Kind: k.number, A: a, B: b, X: x}, want)
				}
			}
		}
	}
}

func TestEachAccountAndKeyMayBe(t *testing.T) {
	for a := range 4 {
		for _, o := range of(open(a, 0), open(a, mostBalance), closing(a), deposit(a, 0), deposit(a, mostBalance), withdraw(a, 0), withdraw(a, mostBalance)) {
			checkMay(t, o, true)
		}
		for b := range 4 {
			checkMay(t, transfer(a, b, mostBalance), true)
		}
	}
	for a := range 5 {
		for _, o := range of(insert(a, 0), insert(a, 1), erase(a), find(a)) {
			checkMay(t, o, true)
		}
		for b := range 5 {
			checkMay(t, span(a, b), true)
		}
	}
}

func TestKindsThatAreNone(t *testing.T) {
	for _, number := range []int{leastInt, -256, -11, -10, -6, -5, -2, -1, 11, 12, 16, 256, 1 << 32, 1<<32 + 5, 1<<32 + 6, mostInt} {
		for _, o := range of(api.Op{}, api.Op{A: 1}, api.Op{X: 1}, api.Op{A: 1, X: 1}, api.Op{A: 1, B: 2}, api.Op{A: 1, B: 2, X: 3}) {
			o.Kind = number
			checkMay(t, o, false)
		}
	}
}

func TestOneOperation(t *testing.T) {
	balances, keys := some().balances, some().keys
	for _, r := range []row{
		{some(), of(open(2, 7)), nums(7), state{four{10, 20, 7, mostBalance}, keys}},
		{some(), of(open(0, 7)), ends(1), some()},
		{some(), of(closing(1)), nums(20), state{four{10, shut, shut, mostBalance}, keys}},
		{some(), of(closing(2)), ends(2), some()},
		{some(), of(deposit(1, 5)), nums(25), state{four{10, 25, shut, mostBalance}, keys}},
		{some(), of(deposit(2, 5)), ends(2), some()},
		{some(), of(deposit(3, 1)), ends(4), some()},
		{some(), of(withdraw(1, 20)), nums(0), state{four{10, 0, shut, mostBalance}, keys}},
		{some(), of(withdraw(2, 0)), ends(2), some()},
		{some(), of(withdraw(1, 21)), ends(3), some()},
		{some(), of(transfer(1, 0, 4)), nums(16), state{four{14, 16, shut, mostBalance}, keys}},
		{some(), of(transfer(1, 1, 4)), nums(20), some()},
		{some(), of(transfer(0, 2, 0)), ends(2), some()},
		{some(), of(transfer(0, 1, 11)), ends(3), some()},
		{some(), of(transfer(0, 3, 1)), ends(4), some()},
		{some(), of(sum()), nums(1048605), some()},
		{some(), of(insert(2, 0)), nums(2), state{balances, five{0, 1, 1, 2, 0}}},
		{some(), of(insert(2, 1)), nums(2), state{balances, five{0, 1, 2, 2, 0}}},
		{some(), of(insert(3, 0)), ends(1), some()},
		{some(), of(erase(3)), nums(3), state{balances, five{0, 1, 0, 0, 0}}},
		{some(), of(erase(2)), ends(2), some()},
		{some(), of(find(1)), nums(1), some()},
		{some(), of(find(2)), nums(0), some()},
		{some(), of(least()), nums(1), some()},
		{state{balances, five{}}, of(least()), ends(2), state{balances, five{}}},
		{some(), of(span(0, 4)), nums(10), some()},
		{some(), of(span(4, 0)), nums(0), some()},
	} {
		checkRow(t, r)
	}
}

func TestTwoOfAccounts(t *testing.T) {
	const most = mostBalance
	had, keys := some(), some().keys
	for _, r := range []row{
		{had, of(open(2, 7), deposit(2, 3)), nums(7, 10), state{four{10, 20, 10, most}, keys}},
		{had, of(open(2, 0), sum()), nums(0, 1048605), state{four{10, 20, 0, most}, keys}},
		{had, of(open(2, most), deposit(2, 0)), nums(most, most), state{four{10, 20, most, most}, keys}},
		{had, of(open(2, 6), transfer(2, 0, 6)), nums(6, 0), state{four{16, 20, 0, most}, keys}},
		{had, of(open(2, 1), transfer(0, 2, 4)), nums(1, 6), state{four{6, 20, 5, most}, keys}},
		{had, of(open(2, 4), transfer(2, 2, 4)), nums(4, 4), state{four{10, 20, 4, most}, keys}},
		{had, of(open(2, 9), closing(2)), nums(9, 9), had},
		{had, of(closing(1), open(1, 3)), nums(20, 3), state{four{10, 3, shut, most}, keys}},
		{had, of(closing(3), sum()), nums(most, 30), state{four{10, 20, shut, shut}, keys}},
		{had, of(sum(), closing(3)), nums(1048605, most), state{four{10, 20, shut, shut}, keys}},
		{had, of(deposit(0, 5), withdraw(0, 15)), nums(15, 0), state{four{0, 20, shut, most}, keys}},
		{had, of(withdraw(0, 5), deposit(0, 5)), nums(5, 10), had},
		{had, of(withdraw(3, 5), deposit(3, 5)), nums(1048570, most), had},
		{had, of(withdraw(3, 5), transfer(0, 3, 5)), nums(1048570, 5), state{four{5, 20, shut, most}, keys}},
		{had, of(transfer(0, 1, 4), transfer(1, 0, 24)), nums(6, 0), state{four{30, 0, shut, most}, keys}},
		{had, of(transfer(1, 0, 20), withdraw(0, 30)), nums(0, 0), state{four{0, 0, shut, most}, keys}},
		{had, of(deposit(0, 1), deposit(1, 1)), nums(11, 21), state{four{11, 21, shut, most}, keys}},
	} {
		checkRow(t, r)
	}
}

func TestTwoOfKeys(t *testing.T) {
	had, balances := some(), some().balances
	for _, r := range []row{
		{had, of(insert(2, 0), find(2)), nums(2, 1), state{balances, five{0, 1, 1, 2, 0}}},
		{had, of(insert(2, 1), erase(2)), nums(2, 2), had},
		{had, of(insert(0, 1), least()), nums(0, 0), state{balances, five{2, 1, 0, 2, 0}}},
		{had, of(least(), insert(0, 1)), nums(1, 0), state{balances, five{2, 1, 0, 2, 0}}},
		{had, of(insert(4, 0), span(0, 4)), nums(4, 26), state{balances, five{0, 1, 0, 2, 1}}},
		{had, of(insert(2, 1), insert(4, 1)), nums(2, 4), state{balances, five{0, 1, 2, 2, 2}}},
		{had, of(insert(4, 1), insert(2, 1)), nums(4, 2), state{balances, five{0, 1, 2, 2, 2}}},
		{had, of(erase(3), insert(3, 0)), nums(3, 3), state{balances, five{0, 1, 0, 1, 0}}},
		{had, of(erase(1), insert(1, 1)), nums(1, 1), state{balances, five{0, 2, 0, 2, 0}}},
		{had, of(erase(1), least()), nums(1, 3), state{balances, five{0, 0, 0, 2, 0}}},
		{had, of(erase(3), erase(1)), nums(3, 1), state{balances, five{}}},
		{had, of(erase(3), find(3)), nums(3, 0), state{balances, five{0, 1, 0, 0, 0}}},
		{had, of(find(3), erase(3)), nums(1, 3), state{balances, five{0, 1, 0, 0, 0}}},
		{had, of(span(0, 4), erase(1)), nums(10, 1), state{balances, five{0, 0, 0, 2, 0}}},
		{had, of(find(4), span(2, 4)), nums(0, 8), had},
	} {
		checkRow(t, r)
	}
}

func TestOneOfAccountsAndOneOfKeys(t *testing.T) {
	const most = mostBalance
	had, balances, keys := some(), some().balances, some().keys
	for _, r := range []row{
		{had, of(deposit(0, 5), insert(2, 1)), nums(15, 2), state{four{15, 20, shut, most}, five{0, 1, 2, 2, 0}}},
		{had, of(insert(2, 1), deposit(0, 5)), nums(2, 15), state{four{15, 20, shut, most}, five{0, 1, 2, 2, 0}}},
		{had, of(open(2, 8), erase(1)), nums(8, 1), state{four{10, 20, 8, most}, five{0, 0, 0, 2, 0}}},
		{had, of(erase(3), closing(3)), nums(3, most), state{four{10, 20, shut, shut}, five{0, 1, 0, 0, 0}}},
		{had, of(transfer(1, 0, 20), span(0, 4)), nums(0, 10), state{four{30, 0, shut, most}, keys}},
		{had, of(insert(0, 0), sum()), nums(0, 1048605), state{balances, five{1, 1, 0, 2, 0}}},
		{had, of(sum(), least()), nums(1048605, 1), had},
		{had, of(find(2), withdraw(1, 1)), nums(0, 19), state{four{10, 19, shut, most}, keys}},
	} {
		checkRow(t, r)
	}
}

func TestTheSameTwice(t *testing.T) {
	const most = mostBalance
	had, balances, keys := some(), some().balances, some().keys
	for _, r := range []row{
		{had, of(open(2, 7), open(2, 7)), ends(1, 7), had},
		{had, of(closing(1), closing(1)), ends(2, 20), had},
		{had, of(deposit(0, 5), deposit(0, 5)), nums(15, 20), state{four{20, 20, shut, most}, keys}},
		{had, of(withdraw(1, 10), withdraw(1, 10)), nums(10, 0), state{four{10, 0, shut, most}, keys}},
		{had, of(withdraw(1, 11), withdraw(1, 11)), ends(3, 9), had},
		{had, of(transfer(1, 0, 5), transfer(1, 0, 5)), nums(15, 10), state{four{20, 10, shut, most}, keys}},
		{had, of(transfer(0, 1, 6), transfer(0, 1, 6)), ends(3, 4), had},
		{had, of(sum(), sum()), nums(1048605, 1048605), had},
		{had, of(insert(2, 1), insert(2, 1)), ends(1, 2), had},
		{had, of(erase(3), erase(3)), ends(2, 3), had},
		{had, of(find(1), find(1)), nums(1, 1), had},
		{had, of(find(2), find(2)), nums(0, 0), had},
		{had, of(least(), least()), nums(1, 1), had},
		{had, of(span(2, 4), span(2, 4)), nums(8, 8), had},
		{state{balances, five{}}, of(least(), least()), ends(2), state{balances, five{}}},
	} {
		checkRow(t, r)
	}
}

// Of a transaction whose last operation is refused nothing is left, but all answers are told.
func TestRefusedAtTheLastPlace(t *testing.T) {
	none := state{some().balances, five{0, 1, 0, 0, 0}}
	for _, r := range []row{
		{some(), of(open(2, 7), open(0, 1)), ends(1, 7), some()},
		{some(), of(closing(1), deposit(1, 0)), ends(2, 20), some()},
		{some(), of(closing(1), transfer(0, 1, 1)), ends(2, 20), some()},
		{some(), of(deposit(0, 5), withdraw(0, 16)), ends(3, 15), some()},
		{some(), of(withdraw(3, 5), deposit(3, 6)), ends(4, 1048570), some()},
		{some(), of(transfer(3, 1, 1), deposit(3, 2)), ends(4, 1048574), some()},
		{some(), of(sum(), closing(2)), ends(2, 1048605), some()},
		{some(), of(insert(2, 1), withdraw(0, 11)), ends(3, 2), some()},
		{some(), of(erase(3), deposit(3, 1)), ends(4, 3), some()},
		{some(), of(deposit(0, 5), insert(1, 0)), ends(1, 15), some()},
		{some(), of(withdraw(0, 10), erase(4)), ends(2, 0), some()},
		{some(), of(insert(2, 0), insert(3, 1)), ends(1, 2), some()},
		{some(), of(erase(3), erase(2)), ends(2, 3), some()},
		{none, of(erase(1), least()), ends(2, 1), none},
		{some(), of(find(3), open(1, 1)), ends(1, 1), some()},
	} {
		checkRow(t, r)
	}
}

// refusals are operations that are refused upon some(), with their codes and the cells that they ask for.
func refusals() []asked {
	return []asked{
		{ops: of(open(0, 1)), answers: ends(1), cells: []int{0}},
		{ops: of(closing(2)), answers: ends(2), cells: []int{2}},
		{ops: of(deposit(2, 1)), answers: ends(2), cells: []int{2}},
		{ops: of(deposit(3, 1)), answers: ends(4), cells: []int{3}},
		{ops: of(withdraw(1, 21)), answers: ends(3), cells: []int{1}},
		{ops: of(transfer(2, 1, 1)), answers: ends(2), cells: []int{2, 1}},
		{ops: of(transfer(0, 1, 11)), answers: ends(3), cells: []int{0, 1}},
		{ops: of(transfer(0, 3, 10)), answers: ends(4), cells: []int{0, 3}},
		{ops: of(insert(1, 1)), answers: ends(1), cells: []int{5, 4}},
		{ops: of(erase(2)), answers: ends(2), cells: []int{5, 4, 8}},
	}
}

// Behind an operation that is refused none is done: it has no answer, writes nothing, and asks for nothing.
func TestRefusedAtTheFirstPlace(t *testing.T) {
	for _, r := range refusals() {
		for _, behind := range append(every(), r.ops[0]) {
			v, ops := over(some()), of(r.ops[0], behind)
			checkDone(t, v, ops, r.answers, v)
			enough := only(v, r.cells...)
			checkDone(t, enough, ops, r.answers, enough)
			for i, cell := range r.cells {
				checkNeed(t, without(enough, cell), ops, cell)
				checkNeed(t, only(v, r.cells[:i]...), ops, cell)
			}
		}
	}
}

// asked is a transaction upon some(), with its answers and the cells that it asks for, in their row, worked out by hand.
type asked struct {
	ops     []api.Op
	answers []api.Answer
	cells   []int
	has     state
}

// checkAsked looks that the cells are asked for in their row, and no others.
func checkAsked(t *testing.T, a asked) {
	t.Helper()
	v := over(some())
	enough := only(v, a.cells...)
	checkDone(t, enough, a.ops, a.answers, becomes(enough, a.has))
	for i, cell := range a.cells {
		checkNeed(t, without(v, cell), a.ops, cell)
		checkNeed(t, without(v, a.cells[i:]...), a.ops, cell)
		checkNeed(t, only(v, a.cells[:i]...), a.ops, cell)
		checkNeed(t, without(enough, cell), a.ops, cell)
	}
}

func TestCellsAskedFor(t *testing.T) {
	const most = mostBalance
	balances, keys := some().balances, some().keys
	for _, a := range []asked{
		{of(deposit(0, 5)), nums(15), []int{0}, state{four{15, 20, shut, most}, keys}},
		{of(sum()), nums(1048605), []int{0, 1, 2, 3}, some()},
		{of(find(2)), nums(0), []int{5, 4, 8}, some()},
		{of(deposit(0, 5), deposit(0, 5)), nums(15, 20), []int{0}, state{four{20, 20, shut, most}, keys}},
		{of(deposit(3, 0), deposit(1, 5)), nums(most, 25), []int{3, 1}, state{four{10, 25, shut, most}, keys}},
		{of(deposit(1, 5), transfer(0, 1, 1)), nums(25, 9), []int{1, 0}, state{four{9, 26, shut, most}, keys}},
		{of(transfer(1, 0, 20), sum()), nums(0, 1048605), []int{1, 0, 2, 3}, state{four{30, 0, shut, most}, keys}},
		{of(open(2, 7), open(0, 1)), ends(1, 7), []int{2, 0}, some()},
		{of(sum(), find(2)), nums(1048605, 0), []int{0, 1, 2, 3, 5, 4, 8}, some()},
		{of(least(), sum()), nums(1, 1048605), []int{4, 0, 1, 2, 3}, some()},
		{of(least(), find(0)), nums(1, 0), []int{4, 5}, some()},
		{of(find(0), find(4)), nums(0, 0), []int{5, 4, 13, 12}, some()},
		{of(span(0, 4), closing(0)), nums(10, 10), []int{5, 4, 8, 12, 0}, state{four{shut, 20, shut, most}, keys}},
		{of(open(2, 7), insert(0, 0)), nums(7, 0), []int{2, 5, 4, 6}, state{four{10, 20, 7, most}, five{1, 1, 0, 2, 0}}},
		{of(insert(2, 1), withdraw(0, 11)), ends(3, 2), []int{5, 4, 8, 10, 11, 0}, some()},
		// What the one ahead wrote tells where the one behind goes.
		{of(insert(2, 1), find(2)), nums(2, 1), []int{5, 4, 8, 10, 11}, state{balances, five{0, 1, 2, 2, 0}}},
		{of(insert(2, 1), find(4)), nums(2, 0), []int{5, 4, 8, 10, 11, 13, 12}, state{balances, five{0, 1, 2, 2, 0}}},
		{of(insert(2, 0), find(4)), nums(2, 0), []int{5, 4, 8, 10, 13, 12}, state{balances, five{0, 1, 1, 2, 0}}},
		{of(erase(3), find(4)), nums(3, 0), []int{5, 4, 8, 12, 13}, state{balances, five{0, 1, 0, 0, 0}}},
		{of(erase(1), find(2)), nums(1, 0), []int{5, 4, 8}, state{balances, five{0, 0, 0, 2, 0}}},
	} {
		checkAsked(t, a)
	}
}

// The view of a need is what was handed in, though the operation ahead was done.
func TestNeedBehindOneThatIsDone(t *testing.T) {
	v := over(some())
	checkNeed(t, only(v, 0), of(deposit(0, 5), deposit(1, 5)), 1)
	checkNeed(t, only(v, 0), of(withdraw(0, 10), least()), 4)
	checkNeed(t, only(v, 1, 2), of(transfer(1, 1, 3), transfer(2, 3, 0)), 3)
	checkNeed(t, only(v, 4, 5, 8, 12, 13), of(erase(3), closing(0)), 0)
	checkNeed(t, without(v, 12), of(insert(2, 1), span(0, 4)), 12)
	checkNeed(t, without(v, 3), of(open(2, 9), sum()), 3)
}

// A cell that is not known may hold any value: that is not read.
func TestNeedWhateverStandsThere(t *testing.T) {
	for _, x := range []int{0, 1, 2, 5, 1 << 32, mostValue} {
		v := without(over(some()), 1, 8)
		for _, cell := range []int{1, 8} {
			v.Was[cell], v.Now[cell] = mostValue-x, x
		}
		checkNeed(t, v, of(deposit(0, 5), withdraw(1, 21)), 1)
		checkNeed(t, v, of(deposit(0, 5), find(2)), 8)
		checkNeed(t, v, of(find(2), withdraw(1, 21)), 8)
		checkNeed(t, v, of(sum(), erase(2)), 1)
	}
	for _, o := range every() {
		cell := o.A
		if o.Kind > 5 {
			cell = 5
		}
		if o.Kind == 9 {
			cell = 4
		}
		checkNeed(t, api.View{}, of(o), cell)
		checkNeed(t, api.View{}, of(o, sum()), cell)
		checkNeed(t, api.View{}, of(o, o), cell)
	}
}

// plain tells of a state, without cells, what comes of an operation.
func plain(s state, o api.Op) (api.Answer, state) {
	if o.Kind <= 5 {
		return plainOfAccounts(s, o)
	}
	return plainOfKeys(s, o)
}

func plainOfAccounts(s state, o api.Op) (api.Answer, state) {
	b := &s.balances
	total := 0
	for _, balance := range b {
		total += max(balance, 0)
	}
	switch {
	case o.Kind == 5:
		return api.Answer{Num: total}, s
	case o.Kind == 0 && b[o.A] != shut:
		return api.Answer{Code: 1}, s
	case o.Kind != 0 && b[o.A] == shut, o.Kind == 4 && b[o.B] == shut:
		return api.Answer{Code: 2}, s
	case o.Kind >= 3 && b[o.A] < o.X:
		return api.Answer{Code: 3}, s
	case o.Kind == 2 && b[o.A]+o.X > mostBalance, o.Kind == 4 && o.A != o.B && b[o.B]+o.X > mostBalance:
		return api.Answer{Code: 4}, s
	}
	num := b[o.A]
	switch o.Kind {
	case 0:
		b[o.A] = o.X
	case 1:
		b[o.A] = shut
		return api.Answer{Num: num}, s
	case 2:
		b[o.A] += o.X
	case 3:
		b[o.A] -= o.X
	case 4:
		b[o.A] -= o.X
		b[o.B] += o.X
	}
	return api.Answer{Num: b[o.A]}, s
}

func plainOfKeys(s state, o api.Op) (api.Answer, state) {
	levels := s.keys[o.A]
	switch {
	case o.Kind == 6 && levels > 0:
		return api.Answer{Code: 1}, s
	case o.Kind == 6:
		s.keys[o.A] = 1 + o.X
		return api.Answer{Num: o.A}, s
	case o.Kind == 7 && levels == 0, o.Kind == 9 && s.keys == (five{}):
		return api.Answer{Code: 2}, s
	case o.Kind == 7:
		s.keys[o.A] = 0
		return api.Answer{Num: o.A}, s
	case o.Kind == 8:
		return api.Answer{Num: min(levels, 1)}, s
	}
	bits, first := 0, -1
	for key, levels := range s.keys {
		if levels > 0 && o.A <= key && key <= o.B {
			bits += []int{1, 2, 4, 8, 16}[key]
		}
		if levels > 0 && first < 0 {
			first = key
		}
	}
	if o.Kind == 9 {
		return api.Answer{Num: first}, s
	}
	return api.Answer{Num: bits}, s
}

// plainAll is plain of a transaction: all, or none.
func plainAll(had state, ops []api.Op) row {
	r := row{had, ops, nil, had}
	for _, o := range ops {
		var answer api.Answer
		answer, r.has = plain(r.has, o)
		r.answers = append(r.answers, answer)
		if answer.Code != 0 {
			r.has = had
			break
		}
	}
	return r
}

func TestEveryTwoUponEachState(t *testing.T) {
	for _, had := range states() {
		for _, o := range every() {
			checkRow(t, plainAll(had, of(o)))
			for _, p := range every() {
				checkRow(t, plainAll(had, of(o, p)))
			}
		}
	}
}

// Whoever knows nothing at first, and then what is asked for, comes to the same end, and is asked for each cell once.
func TestAskedCellByCell(t *testing.T) {
	for _, had := range states() {
		for _, o := range every() {
			for _, p := range every() {
				checkCellByCell(t, plainAll(had, of(o, p)))
			}
		}
	}
}

func checkCellByCell(t *testing.T, r row) {
	t.Helper()
	v, there := api.View{}, cellsOf(r.had)
	for range 17 {
		got, e := Do(v, r.ops...)
		if e != api.OK || got.Need < -1 || got.Need > 15 {
			t.Errorf("P7.1: %+v: need %d, error %d", r.ops, got.Need, e)
			return
		}
		if got.Need == -1 {
			left := v
			for cell, x := range cellsOf(r.has) {
				if v.Known[cell] {
					left.Now[cell] = x
				}
			}
			checkDone(t, v, r.ops, r.answers, left)
			return
		}
		if v.Known[got.Need] {
			t.Errorf("P7.1: %+v: needs %d, which is known", r.ops, got.Need)
			return
		}
		checkNeed(t, v, r.ops, got.Need)
		v.Known[got.Need], v.Was[got.Need], v.Now[got.Need] = true, there[got.Need], there[got.Need]
	}
	t.Errorf("P7.1: %+v: never done", r.ops)
}

// layers asks layers 5 and 6 themselves, one operation behind the other.
func layers(t *testing.T, v api.View, ops []api.Op) api.Ask {
	t.Helper()
	whole := api.Ask{Need: -1, View: v}
	for _, o := range ops {
		do := skip.Do
		if o.Kind <= 5 {
			do = bank.Do
		}
		ask, e := do(whole.View, o)
		if e != api.OK {
			t.Errorf("P5.1, P6.1: %+v upon what %+v left: error %d", o, ops, e)
		}
		if ask.Need != -1 {
			return api.Ask{Need: ask.Need, View: v}
		}
		whole.View, whole.Answers = ask.View, append(whole.Answers, ask.Answers...)
		if ask.Answers[0].Code != 0 {
			whole.View = v
			break
		}
	}
	return whole
}

// raw is a view of cells of any values, some of them not known; seed tells which.
func raw(seed int) api.View {
	var v api.View
	for cell := range 16 {
		seed = (seed*1103515245 + 12345) & (1<<31 - 1)
		v.Known[cell] = seed>>16&15 != 0
		v.Was[cell] = seed & 1023
		v.Now[cell] = []int{0, 1, 2, 3, 4, 5, 6, mostBalance, mostBalance + 1, mostValue}[seed>>20%10]
	}
	return v
}

// Of cells that no row of transactions leaves it does what the layers do: it looks at none of them itself.
func TestRawViews(t *testing.T) {
	for seed := range 12 {
		v := raw(seed + 1)
		for _, o := range every() {
			for _, p := range every() {
				want := layers(t, v, of(o, p))
				got, e := Do(v, o, p)
				if e != api.OK || got.Need != want.Need || got.View != want.View || !slices.Equal(got.Answers, want.Answers) {
					t.Errorf("P7.1: %+v, %+v upon %+v: %+v, error %d, want %+v", o, p, v, got, e, want)
				}
			}
		}
	}
}

// What was there says nothing.
func TestWasSaysNothing(t *testing.T) {
	has := state{four{15, 20, shut, mostBalance}, five{0, 1, 2, 2, 0}}
	for _, x := range []int{0, 1, 4, mostBalance + 1, mostValue} {
		v := over(some())
		for cell := range v.Was {
			v.Was[cell] = x
		}
		checkDone(t, v, of(deposit(0, 5), insert(2, 1)), nums(15, 2), becomes(v, has))
		checkDone(t, v, of(insert(2, 1), withdraw(0, 11)), ends(3, 2), v)
	}
}

func TestHowManyOperations(t *testing.T) {
	v := over(some())
	checkRefused(t, "none", v)
	checkRefused(t, "nil", v, nil...)
	checkRefused(t, "empty", v, []api.Op{}...)
	checkRefused(t, "none of spare room", v, each()[:0]...)
	checkRefused(t, "none, nothing known", api.View{})
	for _, o := range each() {
		if ask, e := Do(v, o); e != api.OK || len(ask.Answers) != 1 {
			t.Errorf("P7.1: %+v: answers %v, error %d", o, ask.Answers, e)
		}
		if ask, e := Do(v, sum(), o); e != api.OK || len(ask.Answers) != 2 {
			t.Errorf("P7.1: sum, %+v: answers %v, error %d", o, ask.Answers, e)
		}
		for _, n := range []int{3, 4, 5, 8, 16, 100, 70000} {
			checkRefused(t, "too many", v, slices.Repeat(of(o), n)...)
			checkRefused(t, "too many, nothing known", api.View{}, slices.Repeat(of(o), n)...)
		}
	}
	checkRefused(t, "the first is refused", v, open(0, 1), sum(), sum())
	checkRefused(t, "the second is refused", v, sum(), open(0, 1), sum())
	checkRefused(t, "the third is refused", v, sum(), sum(), open(0, 1))
	checkRefused(t, "the third may not be", v, sum(), sum(), open(4, 1))
}

func TestViewsAtTheirEdges(t *testing.T) {
	ops, has := of(transfer(1, 0, 4), find(3)), state{four{14, 16, shut, mostBalance}, some().keys}
	for cell := range 16 {
		for _, x := range []int{0, mostValue} {
			was := over(some())
			was.Was[cell] = x
			checkDone(t, was, ops, nums(16, 1), becomes(was, has))
			if slices.Contains([]int{0, 1, 4, 5, 8}, cell) {
				continue
			}
			now, left := was, becomes(was, has)
			now.Now[cell], left.Now[cell] = x, x
			checkDone(t, now, ops, nums(16, 1), left)
			checkDone(t, without(now, cell), ops, nums(16, 1), without(left, cell))
		}
	}
}

func TestViewsThatMayNotBe(t *testing.T) {
	for cell := range 16 {
		for _, x := range []int{leastInt, -mostValue, -1 << 32, -2, -1, mostValue + 1, mostValue + 2, 1 << 41, 1 << 62, mostInt} {
			was, now := over(some()), over(some())
			was.Was[cell], now.Now[cell] = x, x
			name := "cell " + strconv.Itoa(cell) + " of " + strconv.Itoa(x)
			for _, v := range []api.View{was, now} {
				checkRefusedOfEach(t, name, v)
				checkRefusedOfEach(t, name+", not known", without(v, cell))
				checkRefusedOfEach(t, name+", none known", only(v))
			}
		}
	}
}

// checkRefusedOfEach looks that no operation is done upon v, alone or with another one, also if it is refused.
func checkRefusedOfEach(t *testing.T, name string, v api.View) {
	t.Helper()
	for _, o := range append(each(), open(0, 1), erase(2)) {
		checkRefused(t, name, v, o)
		checkRefused(t, name, v, o, sum())
		checkRefused(t, name, v, find(3), o)
	}
}

// wrong are operations that may not be: each kind's, just beyond an edge, with a field too many, and of kinds that are none.
func wrong() []api.Op {
	all := of(transfer(0, 4, 1), transfer(0, -1, 1), span(0, 5), span(0, -1), api.Op{Kind: -1}, api.Op{Kind: 11})
	for _, k := range kinds() {
		for _, o := range of(api.Op{A: -1}, api.Op{A: k.a + 1}, api.Op{B: k.b + 1}, api.Op{X: -1}, api.Op{X: k.x + 1}) {
			o.Kind = k.number
			all = append(all, o)
		}
	}
	return all
}

// An operation that may not be is told wherever it stands, also behind one that needs a cell, or is refused.
func TestOperationsThatMayNotBe(t *testing.T) {
	v, bad := over(some()), over(some())
	bad.Now[2] = -1
	for _, o := range wrong() {
		if May(o) {
			t.Errorf("P7.1: %+v may be", o)
		}
		for _, v := range []api.View{v, only(v), only(v, 0, 4, 5), {}, bad} {
			checkRefused(t, "alone", v, o)
			checkRefused(t, "twice", v, o, o)
			checkRefused(t, "too many", v, o, o, o)
			for _, other := range append(each(), open(0, 1), withdraw(0, 11), insert(1, 0), erase(2)) {
				checkRefused(t, "the first", v, o, other)
				checkRefused(t, "the last", v, other, o)
			}
		}
	}
}

// What is handed in stays as it is, its spare room, too, and nothing of that room is done.
func TestWhatIsHandedInStays(t *testing.T) {
	for _, o := range append(every(), wrong()...) {
		for n := range 4 {
			room := of(deposit(0, 5), o, find(1), erase(3), sum())
			before, v := slices.Clone(room), over(some())
			ask, _ := Do(v, room[:n]...)
			if !slices.Equal(room, before) || v != over(some()) {
				t.Errorf("R4: %+v, of which %d are handed in, is now %+v; the view is %+v", before, n, room, v)
			}
			if len(ask.Answers) > n {
				t.Errorf("P7.1: %d operations have the answers %v", n, ask.Answers)
			}
			again, _ := Do(over(some()), before[:n:n]...)
			if ask.Need != again.Need || ask.View != again.View || !slices.Equal(ask.Answers, again.Answers) {
				t.Errorf("R5: %+v without spare room: %+v, with it %+v", before[:n], again, ask)
			}
		}
	}
}

// What one answer is changed to is not seen in another one, nor in a later one; what was handed in is not kept.
func TestAnswersAreTheirOwnMemory(t *testing.T) {
	v := over(some())
	for _, o := range every() {
		for _, ops := range [][]api.Op{of(o), of(sum(), o), of(o, o)} {
			first, _ := Do(v, ops...)
			second, _ := Do(v, ops...)
			answers, left := slices.Clone(second.Answers), second.View
			full := first.Answers[:cap(first.Answers)]
			for i := range full {
				full[i] = api.Answer{Code: -7, Num: -7}
			}
			first.View = api.View{}
			handed := slices.Clone(ops)
			for i := range ops {
				ops[i] = api.Op{Kind: -1}
			}
			if !slices.Equal(second.Answers, answers) || second.View != left {
				t.Errorf("R4: %+v: a change in one answer is seen in another one: %+v", handed, second)
			}
			checkDone(t, v, handed, answers, left)
		}
	}
}

// A call keeps nothing: neither one that is refused, nor one that needs, nor one that is done is seen in the next.
func TestCallsOneBehindTheOther(t *testing.T) {
	v := over(some())
	r := plainAll(some(), of(insert(2, 1), deposit(0, 5)))
	for _, o := range append(every(), wrong()...) {
		for _, w := range []api.View{v, only(v), only(v, 0, 4, 5), raw(3)} {
			Do(w, o)
			checkRow(t, r)
			Do(w, sum(), o)
			checkRow(t, r)
			Do(w, o, o, o)
			checkRow(t, r)
		}
	}
}

// One transaction behind the other: each upon the view that the one ahead left.
func TestTransactionsOneBehindTheOther(t *testing.T) {
	s := state{four{shut, shut, shut, shut}, five{}}
	v := over(s)
	for _, r := range []row{
		{ops: of(open(0, 50), open(1, 20)), answers: nums(50, 20), has: state{four{50, 20, shut, shut}, five{}}},
		{ops: of(transfer(0, 1, 30), insert(3, 1)), answers: nums(20, 3), has: state{four{20, 50, shut, shut}, five{0, 0, 0, 2, 0}}},
		{ops: of(insert(1, 0), transfer(0, 1, 30)), answers: ends(3, 1), has: state{four{20, 50, shut, shut}, five{0, 0, 0, 2, 0}}},
		{ops: of(insert(1, 0), transfer(1, 0, 30)), answers: nums(1, 20), has: state{four{50, 20, shut, shut}, five{0, 1, 0, 2, 0}}},
		{ops: of(sum(), span(0, 4)), answers: nums(70, 10), has: state{four{50, 20, shut, shut}, five{0, 1, 0, 2, 0}}},
		{ops: of(erase(3), closing(0)), answers: nums(3, 50), has: state{four{shut, 20, shut, shut}, five{0, 1, 0, 0, 0}}},
		{ops: of(erase(1), least()), answers: ends(2, 1), has: state{four{shut, 20, shut, shut}, five{0, 1, 0, 0, 0}}},
		{ops: of(erase(1)), answers: nums(1), has: state{four{shut, 20, shut, shut}, five{}}},
		{ops: of(closing(1)), answers: nums(20), has: s},
	} {
		checkDone(t, v, r.ops, r.answers, becomes(v, r.has))
		ask, _ := Do(v, r.ops...)
		v = ask.View
	}
	if v != over(s) {
		t.Errorf("P7.1: at last the view is %+v", v)
	}
}

func TestCallsFromSeveralGoroutines(t *testing.T) {
	var wg sync.WaitGroup
	for n := range 4 {
		wg.Go(func() {
			for _, o := range every() {
				checkRow(t, plainAll(some(), of(o, deposit(n, n))))
				checkNeed(t, without(over(some()), n), of(least(), deposit(n, n)), n)
				checkRefused(t, "at one time", over(some()), o, deposit(n, -1-n))
				checkMay(t, deposit(n, -1-n), false)
			}
		})
	}
	wg.Wait()
}
