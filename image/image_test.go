package image_test

import (
	"slices"
	"strconv"
	"sync"
	"testing"

	"pawl/api"
	"pawl/body"
	"pawl/cells"
	"pawl/image"
	"pawl/model"
)

const (
	leastInt    = -1 << 63
	mostInt     = 1<<63 - 1
	mostBalance = 1048575
	// shut is how the tests write the balance of an account that is closed.
	shut = -1
)

// four are the accounts' balances, in their row.
type four = [4]int

// row is a state with the keys that stand at level 1, too, and its cells, worked out by hand.
type row struct {
	state  api.State
	levels int
	cells  []int
}

// state is that of these balances, with these keys in.
func state(balances four, keys ...int) api.State {
	s := api.State{Balances: balances}
	for _, key := range keys {
		s.In[key] = true
	}
	return s
}

// keyed is a state of these balances, with the keys whose bits are set.
func keyed(balances four, bits int) api.State {
	s := api.State{Balances: balances}
	for key := range 5 {
		s.In[key] = has(bits, key)
	}
	return s
}

// has tells whether a key's bit is set.
func has(bits int, key int) bool {
	return bits&(1<<key) != 0
}

// chained are the cells of these balances, with the keys of bits at level 0 and those of upper at level 1, as two chains.
func chained(balances four, bits int, upper int) []int {
	xs := make([]int, 16)
	for k, balance := range balances {
		xs[k] = balance + 1
	}
	for level, chain := range []int{bits, upper} {
		next := 0
		for key := 4; key >= 0; key-- {
			if has(chain, key) {
				xs[6+2*key+level] = next
				next = key + 1
			}
		}
		xs[4+level] = next
	}
	return xs
}

// rows are worked out by hand.
func rows() []row {
	open := four{10, 20, shut, mostBalance}
	return []row{
		{state(four{shut, shut, shut, shut}), 0, []int{0, 0, 0, 0, 0, 0, 0, 0, 0, 0, 0, 0, 0, 0, 0, 0}},
		{state(open), 0, []int{11, 21, 0, 1048576, 0, 0, 0, 0, 0, 0, 0, 0, 0, 0, 0, 0}},
		{state(open, 0), 0, []int{11, 21, 0, 1048576, 1, 0, 0, 0, 0, 0, 0, 0, 0, 0, 0, 0}},
		{state(open, 0), 1, []int{11, 21, 0, 1048576, 1, 1, 0, 0, 0, 0, 0, 0, 0, 0, 0, 0}},
		{state(open, 4), 0, []int{11, 21, 0, 1048576, 5, 0, 0, 0, 0, 0, 0, 0, 0, 0, 0, 0}},
		{state(open, 4), 16, []int{11, 21, 0, 1048576, 5, 5, 0, 0, 0, 0, 0, 0, 0, 0, 0, 0}},
		{state(four{0, 1, 2, 3}, 1, 3), 8, []int{1, 2, 3, 4, 2, 4, 0, 0, 4, 0, 0, 0, 0, 0, 0, 0}},
		{state(four{0, 1, 2, 3}, 1, 3), 10, []int{1, 2, 3, 4, 2, 2, 0, 0, 4, 4, 0, 0, 0, 0, 0, 0}},
		{state(four{7, 7, 7, 7}, 0, 1, 2, 3, 4), 0, []int{8, 8, 8, 8, 1, 0, 2, 0, 3, 0, 4, 0, 5, 0, 0, 0}},
		{state(four{7, 7, 7, 7}, 0, 1, 2, 3, 4), 31, []int{8, 8, 8, 8, 1, 1, 2, 2, 3, 3, 4, 4, 5, 5, 0, 0}},
		{state(four{7, 7, 7, 7}, 0, 1, 2, 3, 4), 21, []int{8, 8, 8, 8, 1, 1, 2, 3, 3, 0, 4, 5, 5, 0, 0, 0}},
		{state(four{7, shut, 0, 7}, 0, 2, 4), 17, []int{8, 0, 1, 8, 1, 1, 3, 5, 0, 0, 5, 0, 0, 0, 0, 0}},
	}
}

// checkGet looks that xs hold that state.
func checkGet(t *testing.T, xs []int, want api.State) {
	t.Helper()
	if s, e := image.Get(xs...); s != want || e != api.OK {
		t.Errorf("P9.1: Get(%v): %+v, error %d, want %+v", xs, s, e, want)
	}
}

// checkPut looks that these cells hold s.
func checkPut(t *testing.T, s api.State, levels int, want []int) {
	t.Helper()
	if xs, e := image.Put(s, levels); !slices.Equal(xs, want) || e != api.OK {
		t.Errorf("P9.1: Put(%+v, %d): %v, error %d, want %v", s, levels, xs, e, want)
	}
}

// checkNoGet looks that xs are refused.
func checkNoGet(t *testing.T, xs []int) {
	t.Helper()
	if s, e := image.Get(xs...); s != (api.State{}) || e != api.ErrImageForm {
		t.Errorf("P9.1: Get(%v), which may not be: %+v, error %d", xs, s, e)
	}
}

// checkNoPut looks that s with levels is refused.
func checkNoPut(t *testing.T, s api.State, levels int) {
	t.Helper()
	if xs, e := image.Put(s, levels); len(xs) != 0 || e != api.ErrImageForm {
		t.Errorf("P9.1: Put(%+v, %d), which may not be: %v, error %d", s, levels, xs, e)
	}
}

// put is Put of what may be.
func put(t *testing.T, s api.State, levels int) []int {
	t.Helper()
	xs, e := image.Put(s, levels)
	if e != api.OK {
		t.Fatalf("P9.1: Put(%+v, %d): error %d", s, levels, e)
	}
	return xs
}

// with is xs, but with x at one place.
func with(xs []int, at int, x int) []int {
	ys := slices.Clone(xs)
	ys[at] = x
	return ys
}

// farNumbers are wrong far from any edge; some are small again in fewer bits, or after a step.
func farNumbers() []int {
	return []int{
		leastInt, leastInt + 1, leastInt / 2, -1 << 40, -1 << 32, -1<<32 + 1, -1 << 16, -256, -32, -7, -2,
		64, 256, 257, 1 << 16, 1<<32 + 1, 1 << 40, 1 << 62, 1<<62 + 1, mostInt - 1, mostInt,
	}
}

func TestRows(t *testing.T) {
	for _, r := range rows() {
		checkPut(t, r.state, r.levels, r.cells)
		checkGet(t, r.cells, r.state)
	}
}

func TestEachSetThereAndBack(t *testing.T) {
	balances := four{0, mostBalance, shut, 300}
	for bits := range 32 {
		for levels := range 32 {
			s := keyed(balances, bits)
			checkPut(t, s, levels, chained(balances, bits, bits&levels))
			checkGet(t, put(t, s, levels), s)
		}
	}
}

func TestBitsOfKeysThatAreOut(t *testing.T) {
	for bits := range 32 {
		s := keyed(four{1, 2, 3, 4}, bits)
		for levels := range 32 {
			checkPut(t, s, levels, put(t, s, levels&bits))
		}
		checkPut(t, s, 31&^bits, put(t, s, 0))
	}
}

func TestBalancesAsCells(t *testing.T) {
	for account := range 4 {
		for _, xs := range [][]int{chained(four{shut, shut, shut, shut}, 0, 0), chained(four{5, 6, 7, 8}, 21, 4), chained(four{mostBalance, 0, mostBalance, 0}, 31, 31)} {
			s, _ := image.Get(xs...)
			for _, x := range []int{0, 1, 2, 65536, mostBalance, mostBalance + 1} {
				had := s
				had.Balances[account] = x - 1
				checkGet(t, with(xs, account, x), had)
			}
			for _, x := range append(farBalances(), -1, mostBalance+2, mostBalance+3) {
				checkNoGet(t, with(xs, account, x))
			}
		}
	}
}

// farBalances are no balances, nor such and 1.
func farBalances() []int {
	return []int{leastInt, leastInt + 1, -1 << 32, -1<<32 + 1, -mostBalance, -3, -2, 1 << 21, 1 << 32, 1<<32 + 1, 1 << 62, mostInt - 1, mostInt}
}

func TestBalancesAsAState(t *testing.T) {
	for account := range 4 {
		for _, others := range []int{shut, 0, 9, mostBalance} {
			balances := four{others, others, others, others}
			for _, x := range []int{shut, 0, 1, 2, 65536, mostBalance - 1, mostBalance} {
				balances[account] = x
				checkPut(t, keyed(balances, 10), 2, chained(balances, 10, 2))
			}
			for _, x := range append(farBalances(), mostBalance+1) {
				balances[account] = x
				for _, levels := range []int{leastInt, -1, 0, 1, 31, 32, mostInt} {
					checkNoPut(t, keyed(balances, 10), levels)
				}
			}
		}
	}
}

func TestAllBalancesWrong(t *testing.T) {
	for _, x := range append(farBalances(), mostBalance+1) {
		checkNoPut(t, keyed(four{x, x, x, x}, 31), 31)
		checkNoPut(t, keyed(four{x, x, x, x}, 0), 0)
	}
	for _, x := range append(farBalances(), -1, mostBalance+2) {
		checkNoGet(t, []int{x, x, x, x, 0, 0, 0, 0, 0, 0, 0, 0, 0, 0, 0, 0})
	}
}

func TestHowManyCells(t *testing.T) {
	checkNoGet(t, nil)
	checkNoGet(t, []int{})
	for _, xs := range [][]int{make([]int, 40), chained(four{1, 2, 3, 4}, 21, 21), chained(four{1, 2, 3, 4}, 31, 0)} {
		long := append(slices.Clone(xs), make([]int, 40)...)
		for n := range 40 {
			if n != 16 {
				checkNoGet(t, long[:n])
			}
		}
	}
	// Room behind the cells counts for nothing.
	short := chained(four{1, 2, 3, 4}, 0, 0)[:15]
	checkNoGet(t, short)
	checkNoGet(t, make([]int, 1<<16))
}

// linksOf are the keys that the links of a level reach, as long as they rise; false, unless the last one is 0.
func linksOf(xs []int, level int) (int, bool) {
	bits, at := 0, 4+level
	for least := 1; xs[at] != 0; {
		if xs[at] < least || xs[at] > 5 {
			return 0, false
		}
		bits |= 1 << (xs[at] - 1)
		least = xs[at] + 1
		at = 4 + 2*xs[at] + level
	}
	return bits, true
}

// checkLinks looks that Get answers as the links say, which are worked out another way here: the cells are the two chains of what is reached.
func checkLinks(t *testing.T, balances four, xs []int) bool {
	t.Helper()
	bits, ok := linksOf(xs, 0)
	upper, okToo := linksOf(xs, 1)
	if !ok || !okToo || upper&^bits != 0 || !slices.Equal(xs, chained(balances, bits, upper)) {
		checkNoGet(t, xs)
		return false
	}
	checkGet(t, xs, keyed(balances, bits))
	return true
}

func TestEachLinkAsEachKey(t *testing.T) {
	balances := four{3, shut, 0, mostBalance}
	for bits := range 32 {
		for levels := range 32 {
			xs := chained(balances, bits, bits&levels)
			for at := 4; at < 16; at++ {
				for link := range 6 {
					checkLinks(t, balances, with(xs, at, link))
				}
			}
		}
	}
}

func TestLinksThatLeadToNoKey(t *testing.T) {
	balances := four{3, shut, 0, mostBalance}
	for _, bits := range []int{0, 1, 5, 16, 21, 27, 31} {
		for _, levels := range []int{0, 1, 16, 21, 31} {
			xs := chained(balances, bits, bits&levels)
			for at := 4; at < 16; at++ {
				for _, link := range append(farNumbers(), -1, 6, 7, 8, 16) {
					checkNoGet(t, with(xs, at, link))
				}
			}
		}
	}
}

// Two links that are wrong must not come out as right together.
func TestTwoLinksAsEachKey(t *testing.T) {
	balances := four{0, 0, 0, 0}
	good := 0
	for _, bits := range []int{0, 6, 21, 31} {
		for _, levels := range []int{0, 4, 31} {
			xs := chained(balances, bits, bits&levels)
			for one := 4; one < 16; one++ {
				for two := 4; two < one; two++ {
					for links := range 49 {
						if checkLinks(t, balances, with(with(xs, one, links/7), two, links%7)) {
							good++
						}
					}
				}
			}
		}
	}
	if good == 0 {
		t.Error("P9.1: none of all these links may be")
	}
}

func TestLinksThatDoNotRise(t *testing.T) {
	for level := range 2 {
		for key := range 5 {
			for to := range key + 1 {
				xs := chained(four{1, 1, 1, 1}, 31, 31)
				checkNoGet(t, with(xs, 6+2*key+level, to+1))
			}
		}
	}
	// Round and round: the walk must end.
	checkNoGet(t, []int{1, 1, 1, 1, 1, 0, 1, 0, 0, 0, 0, 0, 0, 0, 0, 0})
	checkNoGet(t, []int{1, 1, 1, 1, 1, 0, 5, 0, 0, 0, 0, 0, 0, 0, 1, 0})
	checkNoGet(t, []int{1, 1, 1, 1, 1, 1, 2, 5, 3, 0, 4, 0, 5, 0, 0, 1})
	checkNoGet(t, []int{1, 1, 1, 1, 5, 5, 0, 0, 0, 0, 0, 0, 0, 0, 5, 5})
}

func TestKeysAtLevel1Alone(t *testing.T) {
	for bits := range 32 {
		for upper := range 32 {
			xs := chained(four{1, 1, 1, 1}, bits, upper)
			if upper&^bits != 0 {
				checkNoGet(t, xs)
			} else {
				checkGet(t, xs, keyed(four{1, 1, 1, 1}, bits))
			}
		}
	}
}

func TestLinksThatNoRowReaches(t *testing.T) {
	for bits := range 32 {
		for levels := range 32 {
			xs := chained(four{1, 1, 1, 1}, bits, bits&levels)
			for key := range 5 {
				for link := 1; link <= 5; link++ {
					if !has(bits, key) {
						checkNoGet(t, with(xs, 6+2*key, link))
					}
					if !has(bits&levels, key) {
						checkNoGet(t, with(xs, 7+2*key, link))
					}
				}
			}
		}
	}
}

func TestLevelsThatMayNotBe(t *testing.T) {
	for bits := range 32 {
		s := keyed(four{shut, 0, 5, mostBalance}, bits)
		for _, levels := range append(farNumbers(), -31, -1, 32, 33, 63) {
			checkNoPut(t, s, levels)
		}
		checkPut(t, s, 31, chained(s.Balances, bits, bits))
		checkPut(t, s, 0, chained(s.Balances, bits, 0))
	}
}

func TestWhatComesInStays(t *testing.T) {
	for _, r := range rows() {
		room := slices.Repeat([]int{77}, 24)
		copy(room[4:], r.cells)
		was := slices.Clone(room)
		checkGet(t, room[4:20], r.state)
		if !slices.Equal(room, was) {
			t.Errorf("R4: Get left %v of %v", room, was)
		}
	}
	bad := chained(four{1, 1, 1, 1}, 3, 4)
	was := slices.Clone(bad)
	checkNoGet(t, bad)
	if !slices.Equal(bad, was) {
		t.Errorf("R4: Get left %v of %v", bad, was)
	}
}

func TestAnswersAreTheirOwnMemory(t *testing.T) {
	s := state(four{1, 2, 3, 4}, 0, 2)
	first, second := put(t, s, 4), put(t, s, 4)
	for i := range first[:cap(first)] {
		first[:cap(first)][i] = 99
	}
	if want := chained(s.Balances, 5, 4); !slices.Equal(second, want) {
		t.Errorf("R4: another answer became %v", second)
	}
	checkPut(t, s, 4, chained(s.Balances, 5, 4))
	checkGet(t, second, s)
}

func TestTheSameTwice(t *testing.T) {
	for range 2 {
		for _, r := range rows() {
			checkNoGet(t, r.cells[:15])
			checkGet(t, r.cells, r.state)
			checkNoPut(t, r.state, 32)
			checkPut(t, r.state, r.levels, r.cells)
		}
	}
}

func TestFromSeveralGoroutines(t *testing.T) {
	var wg sync.WaitGroup
	for n := range 4 {
		wg.Go(func() {
			for bits := range 32 {
				s := keyed(four{n, shut, n + 1, mostBalance - n}, bits)
				checkGet(t, chained(s.Balances, bits, bits&(7*n)), s)
				checkPut(t, s, 7*n, chained(s.Balances, bits, bits&(7*n)))
				checkNoPut(t, s, 32+n)
			}
		})
	}
	wg.Wait()
}

// every are operations of all kinds, done and refused in many ways.
func every() []api.Op {
	all := []api.Op{{Kind: api.OpSum}, {Kind: api.OpMin}, {Kind: api.OpTransfer, A: 3, X: mostBalance}, {Kind: api.OpTransfer, A: 2, B: 1}}
	for k := range 4 {
		all = append(all, api.Op{Kind: api.OpOpen, A: k, X: 7}, api.Op{Kind: api.OpClose, A: k}, api.Op{Kind: api.OpDeposit, A: k, X: 9})
		all = append(all, api.Op{Kind: api.OpWithdraw, A: k, X: 11}, api.Op{Kind: api.OpTransfer, A: k, B: (k + 1) % 4, X: 10}, api.Op{Kind: api.OpTransfer, A: k, B: k, X: 8})
	}
	for k := range 5 {
		all = append(all, api.Op{Kind: api.OpInsert, A: k}, api.Op{Kind: api.OpInsert, A: k, X: 1}, api.Op{Kind: api.OpErase, A: k})
		all = append(all, api.Op{Kind: api.OpFind, A: k}, api.Op{Kind: api.OpRange, A: k, B: 3}, api.Op{Kind: api.OpRange, A: 1, B: k})
	}
	return all
}

// full is a view of which all is known.
func full(t *testing.T, xs []int) api.View {
	t.Helper()
	v, e := cells.Full(xs...)
	if e != api.OK {
		t.Fatalf("P9.2: Full(%v): error %d", xs, e)
	}
	return v
}

// checkTold looks that ops upon the cells xs, which hold s, tell what the model tells, and leave the cells of its state; it tells these both.
func checkTold(t *testing.T, xs []int, s api.State, ops []api.Op) ([]int, api.State) {
	t.Helper()
	ask, e := body.Do(full(t, xs), ops...)
	left, answers, fault := model.Do(s, ops...)
	if e != api.OK || fault != api.OK || ask.Need != -1 || !slices.Equal(ask.Answers, answers) {
		t.Fatalf("P9.2: %+v upon %v: need %d, answers %v, error %d, the model %v, error %d", ops, xs, ask.Need, ask.Answers, e, answers, fault)
	}
	now := ask.View.Now[:]
	if got, e := image.Get(now...); got != left || e != api.OK {
		t.Fatalf("P9.2: %+v upon %v leave %v: %+v, error %d, the model %+v", ops, xs, now, got, e, left)
	}
	return now, left
}

func TestEachOperationUponAnImage(t *testing.T) {
	for bits := range 32 {
		for levels := range 32 {
			s := keyed(four{10, 20, shut, mostBalance}, bits)
			xs := put(t, s, levels)
			for _, o := range every() {
				checkTold(t, xs, s, []api.Op{o})
			}
		}
	}
}

func TestTwoOperationsUponAnImage(t *testing.T) {
	for bits := range 32 {
		s := keyed(four{10, shut, 0, mostBalance}, bits)
		for levels := range 32 {
			// A bit of a key that is out makes no other image.
			if levels&^bits != 0 {
				continue
			}
			xs := put(t, s, levels)
			for _, one := range every() {
				for _, two := range every() {
					checkTold(t, xs, s, []api.Op{one, two})
				}
			}
		}
	}
}

// Levels are where OpInsert's X puts a key, so that the cells are the image with just these.
func TestWhatOperationsLeaveIsAnImageWithLevels(t *testing.T) {
	s := model.New()
	xs := put(t, s, 0)
	levels := 0
	for n := range 400 {
		key, level := n*7%5, n/3%2
		o := api.Op{Kind: api.OpInsert, A: key, X: level}
		if s.In[key] {
			o = api.Op{Kind: api.OpErase, A: key}
			level = 0
		}
		levels = levels&^(1<<key) | level<<key
		xs, s = checkTold(t, xs, s, []api.Op{o})
		checkPut(t, s, levels, xs)
	}
}

func TestManyTransactionsOnOneImage(t *testing.T) {
	s := model.New()
	xs := put(t, s, 0)
	all := every()
	x := 1
	for range 5000 {
		x = (x*1103515245 + 12345) % (1 << 31)
		ops := []api.Op{all[x>>8%len(all)], all[x>>16%len(all)]}
		xs, s = checkTold(t, xs, s, ops[:1+x>>12%2])
	}
	if s == model.New() {
		t.Error("P9.2: " + strconv.Itoa(len(all)) + " operations in all these rows left nothing")
	}
}
