package skip

import (
	"slices"
	"strconv"
	"sync"
	"testing"

	"pawl/api"
)

const (
	leastInt  = -1 << 63
	mostInt   = 1<<63 - 1
	mostValue = 1099511627775
)

// links are the cells behind the accounts', in their row: the head's at level 0, 1, then key by key.
type links [12]int

// keys are those that are in, rising: at level 0, and at level 1.
type keys struct {
	low  []int
	high []int
}

// row is an operation upon keys, and what comes of it, worked out by hand.
type row struct {
	name string
	had  keys
	op   api.Op
	code int
	num  int
	has  keys
}

// linked are the links of keys; whoever is not in has none.
func linked(k keys) links {
	var ls links
	for level, chain := range [][]int{k.low, k.high} {
		from := level
		for _, key := range chain {
			ls[from] = key + 1
			from = 2 + 2*key + level
		}
	}
	return ls
}

// over is a view of these links, all known. Was, and the accounts' cells, hold numbers of their own.
func over(ls links) api.View {
	var v api.View
	for cell := range 16 {
		v.Known[cell], v.Was[cell], v.Now[cell] = true, 300+cell, 500+cell
	}
	return becomes(v, ls)
}

// becomes is v with these links.
func becomes(v api.View, ls links) api.View {
	copy(v.Now[4:], ls[:])
	return v
}

// only is v with just these cells known.
func only(v api.View, known ...int) api.View {
	v.Known = [16]bool{}
	for _, cell := range known {
		v.Known[cell] = true
	}
	return v
}

// without is v with these cells not known.
func without(v api.View, unknown ...int) api.View {
	for _, cell := range unknown {
		v.Known[cell] = false
	}
	return v
}

// checkDone looks that o upon v has one answer, and leaves this view.
func checkDone(t *testing.T, name string, v api.View, o api.Op, answer api.Answer, left api.View) {
	t.Helper()
	got, e := Do(v, o)
	if e != api.OK || got.Need != -1 || !slices.Equal(got.Answers, []api.Answer{answer}) {
		t.Errorf("P6.1: %s: %+v: need %d, answers %v, error %d, want %v", name, o, got.Need, got.Answers, e, answer)
	}
	if got.View != left {
		t.Errorf("P6.1: %s: %+v: view %+v, want %+v", name, o, got.View, left)
	}
}

// checkRow looks that a row's operation does what the row says.
func checkRow(t *testing.T, r row) {
	t.Helper()
	v := over(linked(r.had))
	checkDone(t, r.name, v, r.op, api.Answer{Code: r.code, Num: r.num}, becomes(v, linked(r.has)))
}

// checkLinks looks what an operation upon any links comes to.
func checkLinks(t *testing.T, name string, had links, o api.Op, code int, num int, has links) {
	t.Helper()
	v := over(had)
	checkDone(t, name, v, o, api.Answer{Code: code, Num: num}, becomes(v, has))
}

// checkNeed looks that o upon v needs that cell, and has done nothing.
func checkNeed(t *testing.T, v api.View, o api.Op, cell int) {
	t.Helper()
	got, e := Do(v, o)
	if e != api.OK || got.Need != cell || len(got.Answers) != 0 {
		t.Errorf("P6.1: %+v over %v with %v known: need %d, answers %v, error %d, want need %d", o, v.Now[4:], v.Known[4:], got.Need, got.Answers, e, cell)
	}
	if got.View != v {
		t.Errorf("P6.1: %+v that needs %d: view %+v, want %+v", o, cell, got.View, v)
	}
}

// checkRefused looks that o upon v may not be.
func checkRefused(t *testing.T, name string, v api.View, o api.Op) {
	t.Helper()
	got, e := Do(v, o)
	if e != api.ErrSkipForm || got.Need != 0 || got.View != (api.View{}) || len(got.Answers) != 0 {
		t.Errorf("P6.1: %s: %+v: need %d, answers %v, view %+v, error %d", name, o, got.Need, got.Answers, got.View, e)
	}
}

func insert(a int, x int) api.Op { return api.Op{Kind: 6, A: a, X: x} }
func erase(a int) api.Op         { return api.Op{Kind: 7, A: a} }
func find(a int) api.Op          { return api.Op{Kind: 8, A: a} }
func least() api.Op              { return api.Op{Kind: 9} }
func span(a int, b int) api.Op   { return api.Op{Kind: 10, A: a, B: b} }

// each is one operation of each kind.
func each() []api.Op {
	return []api.Op{insert(2, 1), insert(2, 0), erase(2), find(2), least(), span(1, 3)}
}

// every is each operation upon keys that may be.
func every() []api.Op {
	all := []api.Op{least()}
	for a := range 5 {
		all = append(all, insert(a, 0), insert(a, 1), erase(a), find(a))
		for b := range 5 {
			all = append(all, span(a, b))
		}
	}
	return all
}

// of are keys at level 0 alone.
func of(low ...int) keys { return keys{low: low} }

// some are these at level 1, too.
func (k keys) some(high ...int) keys { return keys{k.low, high} }

func TestLinkedByHand(t *testing.T) {
	for _, c := range []struct {
		had  keys
		want links
	}{
		{of(), links{}},
		{of(0), links{1, 0, 0}},
		{of(4), links{5, 0}},
		{of(1, 3), links{2, 0, 0, 0, 4, 0}},
		{of(1, 3).some(3), links{2, 4, 0, 0, 4, 0}},
		{of(0, 2, 4).some(0, 4), links{1, 1, 3, 5, 0, 0, 5}},
		{of(0, 1, 2, 3, 4).some(0, 1, 2, 3, 4), links{1, 1, 2, 2, 3, 3, 4, 4, 5, 5, 0, 0}},
	} {
		if got := linked(c.had); got != c.want {
			t.Errorf("the tests' own links of %v: %v, want %v", c.had, got, c.want)
		}
	}
}

func TestInsert(t *testing.T) {
	all := of(0, 1, 2, 3, 4).some(0, 1, 2, 3, 4)
	for _, r := range []row{
		{"into none", of(), insert(2, 0), 0, 2, of(2)},
		{"into none, both levels", of(), insert(2, 1), 0, 2, of(2).some(2)},
		{"the first into none", of(), insert(0, 0), 0, 0, of(0)},
		{"the first into none, both levels", of(), insert(0, 1), 0, 0, of(0).some(0)},
		{"the last into none", of(), insert(4, 0), 0, 4, of(4)},
		{"the last into none, both levels", of(), insert(4, 1), 0, 4, of(4).some(4)},
		{"between", of(1, 3), insert(2, 0), 0, 2, of(1, 2, 3)},
		{"between, both levels", of(1, 3), insert(2, 1), 0, 2, of(1, 2, 3).some(2)},
		{"between those at both", of(1, 3).some(1, 3), insert(2, 0), 0, 2, of(1, 2, 3).some(1, 3)},
		{"between those at both, both levels", of(1, 3).some(1, 3), insert(2, 1), 0, 2, of(1, 2, 3).some(1, 2, 3)},
		{"behind one at both", of(1, 3).some(1), insert(2, 1), 0, 2, of(1, 2, 3).some(1, 2)},
		{"ahead of one at both", of(1, 3).some(3), insert(2, 1), 0, 2, of(1, 2, 3).some(2, 3)},
		{"the first", of(1, 3).some(1, 3), insert(0, 0), 0, 0, of(0, 1, 3).some(1, 3)},
		{"the first, both levels", of(1, 3).some(1, 3), insert(0, 1), 0, 0, of(0, 1, 3).some(0, 1, 3)},
		{"the last", of(1, 3).some(1, 3), insert(4, 0), 0, 4, of(1, 3, 4).some(1, 3)},
		{"the last, both levels", of(1, 3).some(1, 3), insert(4, 1), 0, 4, of(1, 3, 4).some(1, 3, 4)},
		{"the last of five", of(0, 1, 2, 3).some(0), insert(4, 1), 0, 4, of(0, 1, 2, 3, 4).some(0, 4)},
		{"the first of five", of(1, 2, 3, 4).some(4), insert(0, 1), 0, 0, of(0, 1, 2, 3, 4).some(0, 4)},
		{"there at level 0", of(1, 2, 3).some(1), insert(2, 0), 1, 0, of(1, 2, 3).some(1)},
		{"there at level 0, both levels", of(1, 2, 3).some(1), insert(2, 1), 1, 0, of(1, 2, 3).some(1)},
		{"there at both", of(1, 2, 3).some(2), insert(2, 0), 1, 0, of(1, 2, 3).some(2)},
		{"there at both, both levels", of(1, 2, 3).some(2), insert(2, 1), 1, 0, of(1, 2, 3).some(2)},
		{"the first that is there", of(0), insert(0, 1), 1, 0, of(0)},
		{"the first of all", all, insert(0, 0), 1, 0, all},
		{"the last that is there", of(4).some(4), insert(4, 1), 1, 0, of(4).some(4)},
		{"the last of all", all, insert(4, 1), 1, 0, all},
	} {
		checkRow(t, r)
	}
}

func TestErase(t *testing.T) {
	all := of(0, 1, 2, 3, 4).some(0, 1, 2, 3, 4)
	for _, r := range []row{
		{"from none", of(), erase(2), 2, 0, of()},
		{"the first from none", of(), erase(0), 2, 0, of()},
		{"the last from none", of(), erase(4), 2, 0, of()},
		{"not there", of(1, 3), erase(2), 2, 0, of(1, 3)},
		{"not there, both levels", of(1, 3).some(1, 3), erase(2), 2, 0, of(1, 3).some(1, 3)},
		{"the first that is not there", of(1, 3).some(1, 3), erase(0), 2, 0, of(1, 3).some(1, 3)},
		{"the last that is not there", of(1, 3).some(1, 3), erase(4), 2, 0, of(1, 3).some(1, 3)},
		{"the only one", of(2), erase(2), 0, 2, of()},
		{"the only one, both levels", of(2).some(2), erase(2), 0, 2, of()},
		{"between", of(1, 2, 3), erase(2), 0, 2, of(1, 3)},
		{"between, both levels", of(1, 2, 3).some(2), erase(2), 0, 2, of(1, 3)},
		{"between those at both", of(1, 2, 3).some(1, 3), erase(2), 0, 2, of(1, 3).some(1, 3)},
		{"between those at both, both levels", of(1, 2, 3).some(1, 2, 3), erase(2), 0, 2, of(1, 3).some(1, 3)},
		{"behind one at both", of(1, 2, 3).some(1), erase(2), 0, 2, of(1, 3).some(1)},
		{"ahead of one at both", of(1, 2, 3).some(3), erase(2), 0, 2, of(1, 3).some(3)},
		{"the first", of(0, 1, 3).some(1, 3), erase(0), 0, 0, of(1, 3).some(1, 3)},
		{"the first, both levels", of(0, 1, 3).some(0, 1), erase(0), 0, 0, of(1, 3).some(1)},
		{"the last", of(1, 3, 4).some(1), erase(4), 0, 4, of(1, 3).some(1)},
		{"the last, both levels", of(1, 3, 4).some(1, 4), erase(4), 0, 4, of(1, 3).some(1)},
		{"the first of all", all, erase(0), 0, 0, of(1, 2, 3, 4).some(1, 2, 3, 4)},
		{"the last of all", all, erase(4), 0, 4, of(0, 1, 2, 3).some(0, 1, 2, 3)},
	} {
		checkRow(t, r)
	}
}

func TestFind(t *testing.T) {
	for _, r := range []row{
		{"in none", of(), find(2), 0, 0, of()},
		{"the first in none", of(), find(0), 0, 0, of()},
		{"the last in none", of(), find(4), 0, 0, of()},
		{"there", of(1, 2, 3), find(2), 0, 1, of(1, 2, 3)},
		{"there, both levels", of(1, 2, 3).some(2), find(2), 0, 1, of(1, 2, 3).some(2)},
		{"behind one at both", of(1, 2, 3).some(1, 3), find(2), 0, 1, of(1, 2, 3).some(1, 3)},
		{"not there", of(1, 3), find(2), 0, 0, of(1, 3)},
		{"not there, between those at both", of(1, 3).some(1, 3), find(2), 0, 0, of(1, 3).some(1, 3)},
		{"the first", of(0, 4), find(0), 0, 1, of(0, 4)},
		{"the first, both levels", of(0, 4).some(0), find(0), 0, 1, of(0, 4).some(0)},
		{"the first that is not there", of(1, 4).some(1), find(0), 0, 0, of(1, 4).some(1)},
		{"the last", of(0, 4), find(4), 0, 1, of(0, 4)},
		{"the last, both levels", of(0, 4).some(0, 4), find(4), 0, 1, of(0, 4).some(0, 4)},
		{"the last that is not there", of(0, 3).some(0, 3), find(4), 0, 0, of(0, 3).some(0, 3)},
	} {
		checkRow(t, r)
	}
}

func TestMin(t *testing.T) {
	for _, r := range []row{
		{"of none", of(), least(), 2, 0, of()},
		{"the first", of(0, 1, 2), least(), 0, 0, of(0, 1, 2)},
		{"the first, both levels", of(0, 1, 2).some(0), least(), 0, 0, of(0, 1, 2).some(0)},
		{"one between", of(2, 3), least(), 0, 2, of(2, 3)},
		{"one between, another at both", of(2, 3).some(3), least(), 0, 2, of(2, 3).some(3)},
		{"the last", of(4), least(), 0, 4, of(4)},
		{"the last, both levels", of(4).some(4), least(), 0, 4, of(4).some(4)},
		{"of all", of(0, 1, 2, 3, 4).some(1), least(), 0, 0, of(0, 1, 2, 3, 4).some(1)},
	} {
		checkRow(t, r)
	}
}

func TestRange(t *testing.T) {
	all, odd := of(0, 1, 2, 3, 4).some(0, 2), of(1, 3).some(3)
	for _, r := range []row{
		{"of none", of(), span(0, 4), 0, 0, of()},
		{"of all", all, span(0, 4), 0, 31, all},
		{"of all but the first", all, span(1, 4), 0, 30, all},
		{"of all but the last", all, span(0, 3), 0, 15, all},
		{"of those between", all, span(1, 3), 0, 14, all},
		{"of the first", all, span(0, 0), 0, 1, all},
		{"of one between", all, span(2, 2), 0, 4, all},
		{"of the last", all, span(4, 4), 0, 16, all},
		{"of two", all, span(3, 4), 0, 24, all},
		{"down", all, span(4, 0), 0, 0, all},
		{"down by one", all, span(3, 2), 0, 0, all},
		{"with gaps", odd, span(0, 4), 0, 10, odd},
		{"from one to one", odd, span(1, 3), 0, 10, odd},
		{"from a gap to a gap", odd, span(2, 4), 0, 8, odd},
		{"to a gap", odd, span(0, 2), 0, 2, odd},
		{"of a gap", odd, span(2, 2), 0, 0, odd},
		{"of the gap ahead", odd, span(0, 0), 0, 0, odd},
		{"of the gap behind", odd, span(4, 4), 0, 0, odd},
		{"down to a gap", odd, span(3, 0), 0, 0, odd},
		{"of the last alone", of(4).some(4), span(0, 4), 0, 16, of(4).some(4)},
		{"of the first alone", of(0), span(0, 4), 0, 1, of(0)},
	} {
		checkRow(t, r)
	}
}

// every243 are all rows of keys: each key is out, in at level 0, or in at both.
func every243() []keys {
	var all []keys
	for n := range 243 {
		var k keys
		for key := range 5 {
			if n%3 > 0 {
				k.low = append(k.low, key)
			}
			if n%3 > 1 {
				k.high = append(k.high, key)
			}
			n /= 3
		}
		all = append(all, k)
	}
	return all
}

// put is a rising row with one key more.
func put(chain []int, key int) []int {
	more := append(slices.Clone(chain), key)
	slices.Sort(more)
	return more
}

// cut is a row without a key.
func cut(chain []int, key int) []int {
	return slices.DeleteFunc(slices.Clone(chain), func(other int) bool { return other == key })
}

// plain tells by sets of keys what comes of an operation.
func plain(had keys, o api.Op) row {
	r := row{"by sets", had, o, 0, 0, had}
	there := slices.Contains(had.low, o.A)
	switch o.Kind {
	case 6:
		r.num = o.A
		r.has.low = put(had.low, o.A)
		if o.X == 1 {
			r.has.high = put(had.high, o.A)
		}
		if there {
			r.code, r.num, r.has = 1, 0, had
		}
	case 7:
		r.num = o.A
		r.has = keys{cut(had.low, o.A), cut(had.high, o.A)}
		if !there {
			r.code, r.num, r.has = 2, 0, had
		}
	case 8:
		if there {
			r.num = 1
		}
	case 9:
		if len(had.low) == 0 {
			r.code = 2
		} else {
			r.num = slices.Min(had.low)
		}
	case 10:
		for _, key := range had.low {
			if o.A <= key && key <= o.B {
				r.num += []int{1, 2, 4, 8, 16}[key]
			}
		}
	}
	return r
}

func TestEveryOperationUponEveryKeys(t *testing.T) {
	for _, had := range every243() {
		for _, o := range every() {
			checkRow(t, plain(had, o))
		}
	}
}

// stray are numbers that may be links, but lead nowhere from key x (-1: the head).
func stray(x int) []int {
	numbers := []int{0, 6, 7, 8, 16, 100, 256, 257, 1 << 32, 1<<32 + 5, mostValue - 1, mostValue}
	for back := 1; back <= x+1; back++ {
		numbers = append(numbers, back)
	}
	return numbers
}

// A link to the key itself, to one below it, or to none that is a key, is the end of the row.
func TestStrayLinksAtLevel0(t *testing.T) {
	for _, s := range stray(-1) {
		checkLinks(t, "head", links{s}, least(), 2, 0, links{s})
		checkLinks(t, "head", links{s, 0, 1, 1, 2, 2}, find(0), 0, 0, links{s, 0, 1, 1, 2, 2})
		checkLinks(t, "head", links{s}, span(0, 4), 0, 0, links{s})
		checkLinks(t, "head", links{s}, erase(4), 2, 0, links{s})
		checkLinks(t, "head", links{s}, insert(4, 0), 0, 4, links{0: 5, 10: s})
	}
	for _, s := range stray(1) {
		had := links{0: 2, 4: s, 6: 4, 8: 5}
		checkLinks(t, "key 1", had, least(), 0, 1, had)
		checkLinks(t, "key 1", had, find(1), 0, 1, had)
		checkLinks(t, "key 1", had, find(2), 0, 0, had)
		checkLinks(t, "key 1", had, find(3), 0, 0, had)
		checkLinks(t, "key 1", had, find(4), 0, 0, had)
		checkLinks(t, "key 1", had, span(0, 4), 0, 2, had)
		checkLinks(t, "key 1", had, erase(2), 2, 0, had)
		checkLinks(t, "key 1", had, erase(3), 2, 0, had)
		checkLinks(t, "key 1", had, erase(1), 0, 1, links{0: s, 4: 0, 6: 4, 8: 5})
		checkLinks(t, "key 1", had, insert(2, 0), 0, 2, links{0: 2, 4: 3, 6: s, 8: 5})
		checkLinks(t, "key 1", had, insert(3, 0), 0, 3, links{0: 2, 4: 4, 6: 4, 8: s})
		checkLinks(t, "key 1", had, insert(0, 0), 0, 0, links{0: 1, 2: 2, 4: s, 6: 4, 8: 5})
	}
	for _, s := range stray(4) {
		had := links{0: 1, 2: 5, 10: s}
		checkLinks(t, "key 4", had, span(0, 4), 0, 17, had)
		checkLinks(t, "key 4", had, find(4), 0, 1, had)
		checkLinks(t, "key 4", had, insert(4, 1), 1, 0, had)
		checkLinks(t, "key 4", had, erase(4), 0, 4, links{0: 1, 2: s})
	}
}

// At level 1 such a link only makes the way longer.
func TestStrayLinksAtLevel1(t *testing.T) {
	for _, s := range stray(-1) {
		had := links{1, s, 2, 0, 3, 0}
		checkLinks(t, "head", had, find(2), 0, 1, had)
		checkLinks(t, "head", had, erase(2), 0, 2, links{1, s, 2, 0, 0, 0})
		checkLinks(t, "head", had, erase(0), 0, 0, links{2, s, 0, 0, 3, 0})
		checkLinks(t, "head", had, insert(4, 1), 0, 4, links{0: 1, 1: 5, 2: 2, 4: 3, 6: 5, 11: s})
	}
	for _, s := range stray(1) {
		had := links{0: 2, 1: 2, 4: 4, 5: s, 7: 5, 8: 5, 9: 5}
		checkLinks(t, "key 1", had, find(3), 0, 1, had)
		checkLinks(t, "key 1", had, span(2, 4), 0, 24, had)
		checkLinks(t, "key 1", had, erase(3), 0, 3, links{0: 2, 1: 2, 4: 5, 5: s, 7: 5, 8: 0, 9: 5})
		checkLinks(t, "key 1", had, insert(2, 1), 0, 2, links{0: 2, 1: 2, 4: 3, 5: 3, 6: 4, 7: s, 8: 5, 9: 5})
		checkLinks(t, "key 1", had, insert(2, 0), 0, 2, links{0: 2, 1: 2, 4: 3, 5: s, 6: 4, 7: 5, 8: 5, 9: 5})
		checkLinks(t, "key 1", had, erase(1), 0, 1, links{0: 4, 1: s, 7: 5, 8: 5, 9: 5})
	}
}

// At level 1 there may stand what is not there at level 0: the way leads over it all the same.
func TestKeysAtLevel1Alone(t *testing.T) {
	// From key 2, which is there at level 1 alone, level 0 leads past key 3.
	past := links{0: 4, 1: 3, 6: 5, 8: 5}
	checkLinks(t, "past", past, find(3), 0, 0, past)
	checkLinks(t, "past", past, find(4), 0, 1, past)
	checkLinks(t, "past", past, find(2), 0, 0, past)
	checkLinks(t, "past", past, find(1), 0, 0, past)
	checkLinks(t, "past", past, span(3, 4), 0, 16, past)
	checkLinks(t, "past", past, span(2, 4), 0, 24, past)
	checkLinks(t, "past", past, least(), 0, 3, past)
	checkLinks(t, "past", past, erase(3), 2, 0, past)
	checkLinks(t, "past", past, erase(2), 2, 0, past)
	checkLinks(t, "past", past, insert(3, 0), 0, 3, links{0: 4, 1: 3, 6: 4, 8: 5})
	checkLinks(t, "past", past, insert(3, 1), 0, 3, links{0: 4, 1: 3, 6: 4, 7: 4, 8: 5})
	// A key that is there at level 1 alone stands behind H already, and then leads to itself.
	checkLinks(t, "itself", past, insert(2, 1), 0, 2, links{0: 3, 1: 3, 6: 4, 7: 3, 8: 5})
	checkLinks(t, "itself", past, insert(2, 0), 0, 2, links{0: 3, 1: 3, 6: 4, 8: 5})
	// The first key that level 0 tells is not there, once level 1 leads past it.
	first := links{0: 1, 1: 3, 2: 4}
	checkLinks(t, "first", first, find(0), 0, 1, first)
	checkLinks(t, "first", first, find(3), 0, 0, first)
	checkLinks(t, "first", first, erase(0), 0, 0, links{0: 4, 1: 3})
	checkLinks(t, "first", first, insert(4, 0), 0, 4, links{0: 1, 1: 3, 2: 4, 6: 5})
}

// A key's own links, before it is there, say nothing: they are lost, at each level at which it stands then.
func TestOwnLinksAreLost(t *testing.T) {
	for _, s := range []int{0, 1, 2, 3, 4, 5, 6, 77, mostValue} {
		had := links{0: 2, 1: 4, 4: 4, 6: s, 7: s}
		checkLinks(t, "own", had, insert(2, 0), 0, 2, links{0: 2, 1: 4, 4: 3, 6: 4, 7: s})
		checkLinks(t, "own", had, insert(2, 1), 0, 2, links{0: 2, 1: 3, 4: 3, 6: 4, 7: 4})
		checkLinks(t, "own", had, find(2), 0, 0, had)
		checkLinks(t, "own", had, erase(2), 2, 0, had)
		// Erased at level 0 alone, its link at level 1 stays what it is.
		had = links{0: 3, 1: 4, 6: 4, 7: s}
		checkLinks(t, "own", had, erase(2), 0, 2, links{0: 4, 1: 4, 7: s})
	}
}

// What was there says nothing, nor do the accounts' cells.
func TestOtherCellsSayNothing(t *testing.T) {
	had, has := linked(of(1, 3).some(3)), linked(of(1, 2, 3).some(2, 3))
	for _, x := range []int{0, 1, 2, 3, 4, 5, mostValue} {
		v := over(had)
		for cell := range 16 {
			v.Was[cell] = x
			if cell < 4 {
				v.Now[cell] = x
			}
		}
		checkDone(t, "others", v, insert(2, 1), api.Answer{Num: 2}, becomes(v, has))
		none := without(v, 0, 1, 2, 3)
		checkDone(t, "others not known", none, insert(2, 1), api.Answer{Num: 2}, becomes(none, has))
		checkDone(t, "others not known", none, span(0, 4), api.Answer{Num: 10}, none)
		checkDone(t, "others not known", none, least(), api.Answer{Num: 1}, none)
	}
}

// asked is an operation upon keys, with the cells that it asks for, in their row, worked out by hand.
type asked struct {
	had   keys
	op    api.Op
	cells []int
}

// checkAsked looks that the cells are asked for in their row, and no others.
func checkAsked(t *testing.T, a asked) {
	t.Helper()
	v, r := over(linked(a.had)), plain(a.had, a.op)
	enough := only(v, a.cells...)
	checkDone(t, "just enough known", enough, a.op, api.Answer{Code: r.code, Num: r.num}, becomes(enough, linked(r.has)))
	for i, cell := range a.cells {
		checkNeed(t, without(v, cell), a.op, cell)
		checkNeed(t, without(v, a.cells[i:]...), a.op, cell)
		checkNeed(t, only(v, a.cells[:i]...), a.op, cell)
		checkNeed(t, without(enough, cell), a.op, cell)
	}
}

func TestCellsAskedForByHand(t *testing.T) {
	all, odd := of(0, 1, 2, 3, 4).some(0, 2), of(1, 3).some(3)
	for _, a := range []asked{
		{of(), least(), []int{4}},
		{all, least(), []int{4}},
		{odd, least(), []int{4}},
		{of(), find(0), []int{5, 4}},
		{of(), find(4), []int{5, 4}},
		{all, find(0), []int{5, 4}},
		{all, find(1), []int{5, 7, 6}},
		{all, find(2), []int{5, 7, 6, 8}},
		{all, find(3), []int{5, 7, 11, 10}},
		{all, find(4), []int{5, 7, 11, 10, 12}},
		{odd, find(0), []int{5, 4}},
		{odd, find(1), []int{5, 4}},
		{odd, find(2), []int{5, 4, 8}},
		{odd, find(3), []int{5, 4, 8}},
		{odd, find(4), []int{5, 13, 12}},
		{of(), span(0, 4), []int{5, 4}},
		{all, span(0, 0), []int{5, 4, 6}},
		{all, span(0, 4), []int{5, 4, 6, 8, 10, 12, 14}},
		{all, span(2, 3), []int{5, 7, 6, 8, 10, 12}},
		{all, span(4, 4), []int{5, 7, 11, 10, 12, 14}},
		{all, span(4, 0), []int{5, 7, 11, 10, 12}},
		{all, span(3, 2), []int{5, 7, 11, 10}},
		{odd, span(0, 4), []int{5, 4, 8, 12}},
		{odd, span(0, 2), []int{5, 4, 8}},
		{odd, span(0, 0), []int{5, 4}},
		{of(), insert(0, 0), []int{5, 4, 6}},
		{of(), insert(0, 1), []int{5, 4, 6, 7}},
		{of(), insert(4, 0), []int{5, 4, 14}},
		{of(), insert(4, 1), []int{5, 4, 14, 15}},
		{odd, insert(2, 0), []int{5, 4, 8, 10}},
		{odd, insert(2, 1), []int{5, 4, 8, 10, 11}},
		{odd, insert(4, 1), []int{5, 13, 12, 14, 15}},
		{odd, insert(3, 1), []int{5, 4, 8}},
		{odd, insert(1, 1), []int{5, 4}},
		{all, insert(4, 1), []int{5, 7, 11, 10, 12}},
		{of(), erase(2), []int{5, 4}},
		{odd, erase(2), []int{5, 4, 8}},
		{odd, erase(1), []int{5, 4, 8}},
		{odd, erase(3), []int{5, 4, 8, 12, 13}},
		{all, erase(0), []int{5, 4, 6, 7}},
		{all, erase(1), []int{5, 7, 6, 8}},
		{all, erase(2), []int{5, 7, 6, 8, 10, 11}},
		{all, erase(4), []int{5, 7, 11, 10, 12, 14}},
	} {
		checkAsked(t, a)
	}
}

// way tells by rows of keys which cells an operation asks for.
func way(had keys, o api.Op) []int {
	if o.Kind == 9 {
		return []int{4}
	}
	cells, from := []int{5}, -1
	for _, key := range had.high {
		if key < o.A {
			cells, from = append(cells, 7+2*key), key
		}
	}
	cells = append(cells, 6+2*from)
	there := slices.Contains(had.low, o.A)
	for _, key := range had.low {
		if from < key && key < o.A || o.Kind == 10 && o.A <= key && key <= o.B {
			cells = append(cells, 6+2*key)
		}
	}
	if o.Kind == 6 && !there || o.Kind == 7 && there {
		cells = append(cells, 6+2*o.A)
	}
	if o.Kind == 6 && !there && o.X == 1 || o.Kind == 7 && slices.Contains(had.high, o.A) {
		cells = append(cells, 7+2*o.A)
	}
	return cells
}

func TestCellsAskedForByEveryOperation(t *testing.T) {
	for _, had := range every243() {
		for _, o := range every() {
			checkAsked(t, asked{had, o, way(had, o)})
		}
	}
}

// A cell that is not known may hold any value: that is not read, whether it would be a link or none.
func TestNeedWhateverStandsThere(t *testing.T) {
	for _, x := range []int{0, 1, 2, 3, 4, 5, 6, 1 << 32, mostValue} {
		for _, had := range []keys{of(), of(1, 3).some(3), of(0, 1, 2, 3, 4).some(0, 2)} {
			for _, o := range every() {
				cells := way(had, o)
				for i, cell := range cells {
					v := without(over(linked(had)), cells[i:]...)
					for _, unknown := range cells[i:] {
						v.Was[unknown], v.Now[unknown] = mostValue-x, x
					}
					checkNeed(t, v, o, cell)
				}
			}
		}
	}
}

// Where nothing is known the first cell is that of the head.
func TestNeedOfNothingKnown(t *testing.T) {
	for _, o := range every() {
		cell := 5
		if o.Kind == 9 {
			cell = 4
		}
		checkNeed(t, api.View{}, o, cell)
		checkNeed(t, only(over(linked(of(0, 2).some(2))), 0, 1, 2, 3), o, cell)
	}
}

// What a stray link leads to is not asked for.
func TestNeedBehindStrayLinks(t *testing.T) {
	for _, s := range stray(1) {
		v := over(links{0: 2, 1: 2, 4: s, 5: s, 6: 4, 8: 5})
		checkNeed(t, only(v, 5), find(3), 9)
		checkNeed(t, only(v, 5, 9), find(3), 8)
		enough := only(v, 5, 9, 8)
		checkDone(t, "stray", enough, find(3), api.Answer{}, enough)
		checkDone(t, "stray", enough, erase(4), api.Answer{Code: 2}, enough)
		checkNeed(t, enough, insert(3, 1), 12)
		checkNeed(t, only(v, 5, 9, 8, 12), insert(3, 1), 13)
		enough = only(v, 5, 9, 8, 12, 13)
		left := becomes(enough, links{0: 2, 1: 2, 4: 4, 5: 4, 6: 4, 8: s, 9: s})
		checkDone(t, "stray", enough, insert(3, 1), api.Answer{Num: 3}, left)
	}
}

func TestViewsAtTheirEdges(t *testing.T) {
	for cell := range 16 {
		for _, x := range []int{0, mostValue} {
			v := over(linked(of(1, 3)))
			v.Was[cell] = x
			checkDone(t, "at an edge", v, find(3), api.Answer{Num: 1}, v)
			v.Known[cell], v.Now[cell] = false, x
			if cell != 4 && cell != 5 && cell != 8 {
				checkDone(t, "at an edge", v, find(3), api.Answer{Num: 1}, v)
			}
		}
	}
}

func TestViewsThatMayNotBe(t *testing.T) {
	good := over(linked(of(1, 2, 3).some(2)))
	for cell := range 16 {
		for _, x := range []int{leastInt, -mostValue, -1 << 32, -2, -1, mostValue + 1, mostValue + 2, 1 << 41, 1 << 62, mostInt} {
			was, now := good, good
			was.Was[cell], now.Now[cell] = x, x
			name := "cell " + strconv.Itoa(cell) + " of " + strconv.Itoa(x)
			for _, o := range each() {
				for _, v := range []api.View{was, now} {
					checkRefused(t, name, v, o)
					checkRefused(t, name+", not known", without(v, cell), o)
					checkRefused(t, name+", none known", only(v), o)
				}
			}
		}
	}
}

// checkRefusedAnywhere looks that an operation may not be, whatever is known.
func checkRefusedAnywhere(t *testing.T, o api.Op) {
	t.Helper()
	v := over(linked(of(1, 2, 3).some(2)))
	bad := v
	bad.Now[2] = -1
	for _, v := range []api.View{v, over(links{}), only(v), {}, bad} {
		checkRefused(t, "wrong", v, o)
	}
}

func TestOperationsThatMayNotBe(t *testing.T) {
	for _, far := range []int{leastInt, -1 << 32, -100, -2, -1, 5, 6, 7, 16, 1048575, 1 << 32, 1<<32 + 1, mostInt - 1, mostInt} {
		for _, o := range each() {
			a, b, x := o, o, o
			a.A, b.B, x.X = far, far, far
			checkRefusedAnywhere(t, a)
			checkRefusedAnywhere(t, b)
			checkRefusedAnywhere(t, x)
		}
	}
	for _, x := range []int{2, 3, 4} {
		for a := range 5 {
			checkRefusedAnywhere(t, insert(a, x))
		}
	}
}

// A field that an operation has no use for must be zero.
func TestOperationsWithFieldsTooMany(t *testing.T) {
	for _, o := range []api.Op{
		{Kind: 6, A: 1, B: 1},
		{Kind: 6, A: 1, B: 1, X: 1},
		{Kind: 7, A: 1, B: 1},
		{Kind: 7, A: 1, X: 1},
		{Kind: 8, A: 1, B: 1},
		{Kind: 8, A: 1, X: 1},
		{Kind: 9, A: 1},
		{Kind: 9, B: 1},
		{Kind: 9, X: 1},
		{Kind: 10, A: 1, B: 1, X: 1},
	} {
		checkRefusedAnywhere(t, o)
	}
}

func TestOperationsOfOtherKinds(t *testing.T) {
	for _, kind := range []int{0, 1, 2, 3, 4, 5, 11, 12, 16, 256, 1 << 32, 1<<32 + 6, mostInt, -1, -2, -6, -10, -256, leastInt} {
		for _, o := range []api.Op{{}, {A: 1}, {X: 1}, {A: 1, X: 1}, {A: 1, B: 2}, {A: 1, B: 2, X: 3}} {
			o.Kind = kind
			checkRefusedAnywhere(t, o)
		}
	}
}

// What one answer is changed to is not seen in what was handed in, in another answer, nor in a later one.
func TestAnswersAreTheirOwnMemory(t *testing.T) {
	had := of(1, 3).some(3)
	v := over(linked(had))
	for _, o := range every() {
		first, _ := Do(v, o)
		second, _ := Do(v, o)
		answer, left := second.Answers[0], second.View
		full := first.Answers[:cap(first.Answers)]
		for i := range full {
			full[i] = api.Answer{Code: -7, Num: -7}
		}
		first.View = api.View{}
		if second.Answers[0] != answer || second.View != left {
			t.Errorf("R4: %+v: a change in one answer is seen in another one: %+v", o, second)
		}
		checkDone(t, "again", v, o, answer, left)
	}
	if v != over(linked(had)) {
		t.Errorf("R4: what was handed in is %+v", v)
	}
}

// One operation behind the other: each upon the view that the one ahead left.
func TestOperationsOneBehindTheOther(t *testing.T) {
	v := over(links{})
	for _, r := range []row{
		{op: insert(3, 1), num: 3, has: of(3).some(3)},
		{op: insert(1, 0), num: 1, has: of(1, 3).some(3)},
		{op: insert(4, 1), num: 4, has: of(1, 3, 4).some(3, 4)},
		{op: insert(3, 0), code: 1, has: of(1, 3, 4).some(3, 4)},
		{op: least(), num: 1, has: of(1, 3, 4).some(3, 4)},
		{op: erase(3), num: 3, has: of(1, 4).some(4)},
		{op: find(3), num: 0, has: of(1, 4).some(4)},
		{op: insert(3, 0), num: 3, has: of(1, 3, 4).some(4)},
		{op: span(2, 4), num: 24, has: of(1, 3, 4).some(4)},
		{op: insert(0, 1), num: 0, has: of(0, 1, 3, 4).some(0, 4)},
		{op: erase(1), num: 1, has: of(0, 3, 4).some(0, 4)},
		{op: erase(1), code: 2, has: of(0, 3, 4).some(0, 4)},
		{op: erase(4), num: 4, has: of(0, 3).some(0)},
		{op: erase(0), num: 0, has: of(3)},
		{op: erase(3), num: 3, has: of()},
		{op: least(), code: 2, has: of()},
	} {
		left := becomes(v, linked(r.has))
		checkDone(t, "behind", v, r.op, api.Answer{Code: r.code, Num: r.num}, left)
		ask, _ := Do(v, r.op)
		v = ask.View
	}
}

func TestCallsFromSeveralGoroutines(t *testing.T) {
	var wg sync.WaitGroup
	for range 4 {
		wg.Go(func() {
			for _, o := range every() {
				had := of(0, 2, 3).some(2)
				checkRow(t, plain(had, o))
				checkNeed(t, api.View{}, o, way(had, o)[0])
				o.B += 5
				checkRefused(t, "at one time", over(linked(had)), o)
			}
		})
	}
	wg.Wait()
}
