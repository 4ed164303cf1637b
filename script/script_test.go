package script

import (
	"reflect"
	"regexp"
	"slices"
	"strconv"
	"strings"
	"sync"
	"testing"

	"pawl/api"
)

const (
	leastInt = -1 << 63
	mostInt  = 1<<63 - 1
)

// shown is a plan, and its text as worked out by hand.
type shown struct {
	text string
	plan api.Plan
}

// txn is a transaction of these operations.
func txn(ops ...api.Op) api.Txn {
	return api.Txn{Ops: ops}
}

// alone is a plan of one thread with one transaction.
func alone(ops ...api.Op) api.Plan {
	return api.Plan{Threads: [][]api.Txn{{txn(ops...)}}, Attempts: 1}
}

// times is a list of one thing, n times.
func times[T any](n int, x T) []T {
	return slices.Repeat([]T{x}, n)
}

// greatest is a plan of the most of all, of the operation with the longest text.
func greatest() shown {
	o := api.Op{Kind: api.OpTransfer, A: 3, B: 3, X: 1048575}
	txns := times(8, txn(o, o))
	text := "p16" + strings.Repeat("|"+strings.Repeat(";t3,3,1048575+t3,3,1048575", 8)[1:], 4)
	return shown{text, api.Plan{Threads: times(4, txns), Attempts: 16, Polite: true}}
}

// byHand are plans with their texts.
func byHand() []shown {
	sum, least := api.Op{Kind: api.OpSum}, api.Op{Kind: api.OpMin}
	return []shown{
		{"a1|", api.Plan{Threads: times[[]api.Txn](1, nil), Attempts: 1}},
		{"p1|", api.Plan{Threads: times[[]api.Txn](1, nil), Attempts: 1, Polite: true}},
		{"a9|", api.Plan{Threads: times[[]api.Txn](1, nil), Attempts: 9}},
		{"a10|", api.Plan{Threads: times[[]api.Txn](1, nil), Attempts: 10}},
		{"p16|", api.Plan{Threads: times[[]api.Txn](1, nil), Attempts: 16, Polite: true}},
		{"a2|||", api.Plan{Threads: times[[]api.Txn](3, nil), Attempts: 2}},
		{"p16||||", api.Plan{Threads: times[[]api.Txn](4, nil), Attempts: 16, Polite: true}},
		{"a1|o0,0", alone(api.Op{Kind: api.OpOpen})},
		{"a1|o3,1048575", alone(api.Op{Kind: api.OpOpen, A: 3, X: 1048575})},
		{"a1|c0", alone(api.Op{Kind: api.OpClose})},
		{"a1|c3", alone(api.Op{Kind: api.OpClose, A: 3})},
		{"a1|d1,7", alone(api.Op{Kind: api.OpDeposit, A: 1, X: 7})},
		{"a1|d3,1048575", alone(api.Op{Kind: api.OpDeposit, A: 3, X: 1048575})},
		{"a1|w2,10", alone(api.Op{Kind: api.OpWithdraw, A: 2, X: 10})},
		{"a1|w3,1048575", alone(api.Op{Kind: api.OpWithdraw, A: 3, X: 1048575})},
		{"a1|t0,1,2", alone(api.Op{Kind: api.OpTransfer, B: 1, X: 2})},
		{"a1|t3,3,1048575", alone(api.Op{Kind: api.OpTransfer, A: 3, B: 3, X: 1048575})},
		{"a1|s", alone(sum)},
		{"a1|i0,0", alone(api.Op{Kind: api.OpInsert})},
		{"a1|i4,1", alone(api.Op{Kind: api.OpInsert, A: 4, X: 1})},
		{"a1|e4", alone(api.Op{Kind: api.OpErase, A: 4})},
		{"a1|f4", alone(api.Op{Kind: api.OpFind, A: 4})},
		{"a1|m", alone(least)},
		{"a1|r1,3", alone(api.Op{Kind: api.OpRange, A: 1, B: 3})},
		{"a1|r4,0", alone(api.Op{Kind: api.OpRange, A: 4})},
		{"a1|s+m", alone(sum, least)},
		{"a1|m+s", alone(least, sum)},
		{"a1|s;m", api.Plan{Threads: [][]api.Txn{{txn(sum), txn(least)}}, Attempts: 1}},
		{"a1|s;s;s;s;s;s;s;s", api.Plan{Threads: [][]api.Txn{times(8, txn(sum))}, Attempts: 1}},
		{"a1||s", api.Plan{Threads: [][]api.Txn{nil, {txn(sum)}}, Attempts: 1}},
		{"a1|s|", api.Plan{Threads: [][]api.Txn{{txn(sum)}, nil}, Attempts: 1}},
		{"p3|o0,10+i2,1;t0,1,5||s;m+f2|e2", api.Plan{
			Threads: [][]api.Txn{
				{
					txn(api.Op{Kind: 0, X: 10}, api.Op{Kind: 6, A: 2, X: 1}),
					txn(api.Op{Kind: 4, B: 1, X: 5}),
				},
				nil,
				{txn(sum), txn(least, api.Op{Kind: 8, A: 2})},
				{txn(api.Op{Kind: 7, A: 2})},
			},
			Attempts: 3,
			Polite:   true,
		}},
		greatest(),
	}
}

// same tells whether two plans are one; an empty list and nil are one.
func same(p api.Plan, q api.Plan) bool {
	sameTxn := func(t api.Txn, u api.Txn) bool { return slices.Equal(t.Ops, u.Ops) }
	sameThread := func(ts []api.Txn, us []api.Txn) bool { return slices.EqualFunc(ts, us, sameTxn) }
	return p.Attempts == q.Attempts && p.Polite == q.Polite && slices.EqualFunc(p.Threads, q.Threads, sameThread)
}

// isNone tells whether p is a plan's zero value.
func isNone(p api.Plan) bool {
	return len(p.Threads) == 0 && p.Attempts == 0 && !p.Polite
}

// checkBoth looks that a plan has that text, and that text that plan.
func checkBoth(t *testing.T, c shown) {
	t.Helper()
	if !May(c.plan) {
		t.Errorf("P3.1: %q: its plan may not be", c.text)
	}
	if got, e := Show(c.plan); got != c.text || e != api.OK {
		t.Errorf("P3.1: Show: %q, error %d, want %q", got, e, c.text)
	}
	if got, e := Parse(c.text); !same(got, c.plan) || e != api.OK {
		t.Errorf("P3.1: Parse(%q): %+v, error %d, want %+v", c.text, got, e, c.plan)
	}
}

// checkNoPlan looks that a plan is refused.
func checkNoPlan(t *testing.T, name string, p api.Plan) {
	t.Helper()
	if text, e := Show(p); May(p) || text != "" || e != api.ErrScriptForm {
		t.Errorf("P3.1: %s: may %v; %q, error %d", name, May(p), text, e)
	}
}

// checkNoText looks that a text is refused.
func checkNoText(t *testing.T, s string) {
	t.Helper()
	if p, e := Parse(s); !isNone(p) || e != api.ErrScriptForm {
		t.Errorf("P3.1: %.60q is of no plan: %+v, error %d", s, p, e)
	}
}

// row is a row of numbers, the same in each run.
type row uint64

// next tells a number from 0 below n.
func (r *row) next(n int) int {
	*r = *r*6364136223846793005 + 1442695040888963407
	return int(uint64(*r) >> 33 % uint64(n))
}

// op tells any operation that may be.
func (r *row) op() api.Op {
	amount := r.next(2) * r.next(1048576)
	account, key := r.next(4), r.next(5)
	return []api.Op{
		{Kind: 0, A: account, X: amount},
		{Kind: 1, A: account},
		{Kind: 2, A: account, X: amount},
		{Kind: 3, A: account, X: amount},
		{Kind: 4, A: account, B: r.next(4), X: amount},
		{Kind: 5},
		{Kind: 6, A: key, X: r.next(2)},
		{Kind: 7, A: key},
		{Kind: 8, A: key},
		{Kind: 9},
		{Kind: 10, A: key, B: r.next(5)},
	}[r.next(11)]
}

// plan tells any plan that may be.
func (r *row) plan() api.Plan {
	p := api.Plan{Attempts: 1 + r.next(16), Polite: r.next(2) == 1}
	for range 1 + r.next(4) {
		var txns []api.Txn
		for range r.next(9) {
			var ops []api.Op
			for range 1 + r.next(2) {
				ops = append(ops, r.op())
			}
			txns = append(txns, txn(ops...))
		}
		p.Threads = append(p.Threads, txns)
	}
	return p
}

// wellFormed tells, apart from the program, whether a text is of a plan.
func wellFormed() func(s string) bool {
	const op = `(?:[odw][0-3],N|c[0-3]|t[0-3],[0-3],N|[sm]|i[0-4],[01]|[ef][0-4]|r[0-4],[0-4])`
	const one = op + `(?:\+` + op + `)?`
	const thread = `\|(?:` + one + `(?:;` + one + `){0,7})?`
	const all = `^[pa](?:[1-9]|1[0-6])(?:` + thread + `){1,4}$`
	form := regexp.MustCompile(strings.ReplaceAll(all, "N", `(?:0|[1-9][0-9]{0,6})`))
	number := regexp.MustCompile(`[0-9]+`)
	return func(s string) bool {
		for _, digits := range number.FindAllString(s, -1) {
			if n, err := strconv.Atoi(digits); err != nil || n > 1048575 {
				return false
			}
		}
		return form.MatchString(s)
	}
}

// checkRead looks that Parse takes a text just if it is well formed, and that Show tells it again.
func checkRead(t *testing.T, s string, want bool) {
	t.Helper()
	if !want {
		checkNoText(t, s)
		return
	}
	p, e := Parse(s)
	if e != api.OK {
		t.Fatalf("P3.1: Parse(%q): error %d", s, e)
	}
	if text, e := Show(p); text != s || e != api.OK {
		t.Fatalf("P3.1: Show of Parse(%q): %q, error %d", s, text, e)
	}
}

func TestPlansAndTextsByHand(t *testing.T) {
	for _, c := range byHand() {
		checkBoth(t, c)
	}
}

// An empty list is shown as nil is.
func TestEmptyThreads(t *testing.T) {
	checkBoth(t, shown{"a1|", api.Plan{Threads: [][]api.Txn{{}}, Attempts: 1}})
	checkBoth(t, shown{"a1||", api.Plan{Threads: [][]api.Txn{nil, {}}, Attempts: 1}})
}

func TestPlansGoThereAndBack(t *testing.T) {
	r, well := row(3), wellFormed()
	for range 5000 {
		p := r.plan()
		text, e := Show(p)
		if e != api.OK || !May(p) || !well(text) {
			t.Fatalf("P3.1: Show(%+v): %q, error %d", p, text, e)
		}
		checkBoth(t, shown{text, p})
	}
}

func TestEachAttemptsNumber(t *testing.T) {
	for n := 1; n <= 16; n++ {
		p := alone(api.Op{Kind: api.OpSum})
		p.Attempts = n
		checkBoth(t, shown{"a" + strconv.Itoa(n) + "|s", p})
	}
}

func TestPlansOfTooFewOrTooMany(t *testing.T) {
	one := txn(api.Op{Kind: api.OpSum})
	for _, threads := range [][][]api.Txn{nil, {}, times[[]api.Txn](5, nil), times(5, []api.Txn{one}), times[[]api.Txn](1000, nil)} {
		checkNoPlan(t, strconv.Itoa(len(threads))+" threads", api.Plan{Threads: threads, Attempts: 1})
	}
	for _, n := range []int{leastInt, -16, -1, 0, 17, 18, 1 << 32, mostInt} {
		checkNoPlan(t, strconv.Itoa(n)+" attempts", api.Plan{Threads: [][]api.Txn{{one}}, Attempts: n})
	}
	for _, txns := range [][]api.Txn{times(9, one), times(100, one)} {
		checkNoPlan(t, strconv.Itoa(len(txns))+" transactions", api.Plan{Threads: [][]api.Txn{txns}, Attempts: 1})
		checkNoPlan(t, strconv.Itoa(len(txns))+" transactions at last", api.Plan{Threads: [][]api.Txn{nil, {one}, nil, txns}, Attempts: 1})
	}
	for _, n := range []int{0, 3, 4, 100} {
		checkNoPlan(t, strconv.Itoa(n)+" operations", alone(times(n, one.Ops[0])...))
	}
	checkNoPlan(t, "no plan at all", api.Plan{})
}

// wrongOps are operations that may not be: of kinds that are none, and of each kind with one field beyond its limits.
func wrongOps() []api.Op {
	var wrong []api.Op
	for _, kind := range []int{leastInt, -1, 11, 12, 256, mostInt} {
		wrong = append(wrong, api.Op{Kind: kind}, api.Op{Kind: kind, A: 1, X: 1})
	}
	limits := [][3]int{{3, 0, 1048575}, {3, 0, 0}, {3, 0, 1048575}, {3, 0, 1048575}, {3, 3, 1048575}, {0, 0, 0}, {4, 0, 1}, {4, 0, 0}, {4, 0, 0}, {0, 0, 0}, {4, 4, 0}}
	for kind, most := range limits {
		for field := range 3 {
			for _, x := range []int{leastInt, -1, most[field] + 1, mostInt} {
				values := [3]int{}
				values[field] = x
				wrong = append(wrong, api.Op{Kind: kind, A: values[0], B: values[1], X: values[2]})
			}
		}
	}
	return wrong
}

func TestPlansOfWrongOperations(t *testing.T) {
	sum := api.Op{Kind: api.OpSum}
	for _, o := range wrongOps() {
		name := "operation of kind " + strconv.Itoa(o.Kind)
		checkNoPlan(t, name, alone(o))
		checkNoPlan(t, name, alone(sum, o))
		checkNoPlan(t, name, alone(o, sum))
		checkNoPlan(t, name, api.Plan{Threads: [][]api.Txn{{txn(sum)}, {txn(sum), txn(sum, o)}}, Attempts: 1})
	}
}

// Each one wrong thing in the greatest plan is seen.
func TestOneWrongAmongTheMost(t *testing.T) {
	wrong := txn(api.Op{Kind: api.OpSum, A: 1})
	for thread := range 4 {
		for index := range 8 {
			p, _ := Parse(greatest().text)
			p.Threads[thread][index].Ops[1].X++
			checkNoPlan(t, "a number above the most", p)
			p.Threads[thread][index] = wrong
			checkNoPlan(t, "a wrong transaction", p)
			p.Threads[thread][index].Ops = nil
			checkNoPlan(t, "a transaction of none", p)
		}
	}
}

func TestTextsOfNoPlan(t *testing.T) {
	for _, s := range []string{
		"", "a", "p", "|", "a|", "a1", "p16", "1|", "x1|", "A1|", "P1|", "ap1|", "a1p|", "1a|", "aa1|",
		"a0|", "a17|", "a99|", "a01|", "a001|", "a-1|", "a+1|", "a1,1|", "a1,|", "a1;|", "a1.0|", "a 1|", " a1|", "a1 |", "a1| ", "a1|\n",
		"a1|||||", "a1|s|s|s|s|s", "a1|;", "a1|s;", "a1|;s", "a1|s;;s", "a1|s;s;s;s;s;s;s;s;s", "a1|s;|s", "a1|;|",
		"a1|+", "a1|s+", "a1|+s", "a1|s++s", "a1|s+s+s", "a1|s+;s", "a1|s+|", "a1|s,", "a1|s,0", "a1|s0", "a1|m0", "a1|m,", "a1|m-", "a1|ss", "a1|S", "a1|x", "a1|g0", "a1|0", "a1|p1", "a1|a1",
		"a1|o", "a1|o0", "a1|o0,", "a1|o,0", "a1|o,", "a1|0,0", "a1|o0,0,", "a1|o0,0,0", "a1|o4,0", "a1|o-1,0", "a1|o0,-1", "a1|o0,1048576", "a1|o00,0", "a1|o0,00", "a1|o0,01", "a1|o 0,0", "a1|o0, 0", "a1|o0;0", "a1|o0:0",
		"a1|c", "a1|c4", "a1|c00", "a1|c01", "a1|c0,0", "a1|c0,", "a1|cc0",
		"a1|d0", "a1|d4,1", "a1|d0,1048576", "a1|d0,1,1", "a1|w0", "a1|w4,1", "a1|w0,1048576", "a1|w0,+1",
		"a1|t0,1", "a1|t0,1,", "a1|t0,1,2,3", "a1|t4,1,2", "a1|t1,4,2", "a1|t0,1,1048576", "a1|t0,,2", "a1|t,1,2", "a1|t00,1,2", "a1|t0,01,2", "a1|t0,1,02",
		"a1|i0", "a1|i5,0", "a1|i0,2", "a1|i0,0,0", "a1|e5", "a1|e", "a1|e0,0", "a1|f5", "a1|f", "a1|f0,0",
		"a1|r0", "a1|r5,0", "a1|r0,5", "a1|r0,0,0", "a1|r0;0",
		"a1|o0,0x1", "a1|o0,1e3", "a1|o0,1_0", "a1|o0,:", "a1|o0,/", "a1|o0,1/", "a1|c/", "a1|\x00", "a1\x00|", "\x00a1|",
	} {
		checkNoText(t, s)
	}
}

// Numbers that are too great are refused, those too that a word of the machine would wrap round to one that may be.
func TestTextsOfTooGreatNumbers(t *testing.T) {
	for _, digits := range []string{
		"4294967297", "8589934593", "1099511627777", "9223372036854775807", "9223372036854775808",
		"18446744073709551615", "18446744073709551616", "18446744073709551617", "36893488147419103233",
		"340282366920938463463374607431768211457", strings.Repeat("0", 100) + "1", strings.Repeat("9", 4000),
	} {
		for _, s := range []string{"aN|", "a1|oN,1", "a1|o1,N", "a1|cN", "a1|t1,N,1", "a1|iN,1", "a1|i1,N", "a1|eN", "a1|r1,N"} {
			checkNoText(t, strings.Replace(s, "N", digits, 1))
		}
	}
}

func TestTextsThatAreNoText(t *testing.T) {
	for _, s := range byHand() {
		for _, wrong := range []string{
			"\xff", "\x80", "\xc3", "\xe2\x82", "\xed\xa0\x80", "\xf8\x88\x80\x80\x80",
			// Overlong forms of 0 and of s; U+FFFD, which wrong bytes are read as; digits and a bar of other scripts; runes whose last byte is 1, s, a bar.
			"\xc0\xb0", "\xc1\xb3", "\ufffd", "\u0660", "\uff11", "\uff5c", "\u0131", "\u0173", "\u017c", "\U00010031",
		} {
			for at := range len(s.text) {
				checkNoText(t, s.text[:at]+wrong+s.text[at:])
				checkNoText(t, s.text[:at]+wrong+s.text[at+1:])
			}
			checkNoText(t, s.text+wrong)
		}
	}
}

func TestTextsOfManyBytes(t *testing.T) {
	for _, n := range []int{4095, 4096, 4097, 8192, 1 << 20} {
		checkNoText(t, "a1|"+strings.Repeat("|", n-3))
		checkNoText(t, "a1|"+strings.Repeat("s", n-3))
		checkNoText(t, "a1|s"+strings.Repeat(";", n-4))
		checkNoText(t, "a1|s"+strings.Repeat("+", n-4))
		checkNoText(t, "a1|o0"+strings.Repeat(",", n-5))
		checkNoText(t, "a1|o0,"+strings.Repeat("0", n-7)+"1")
		checkNoText(t, strings.Repeat("a", n))
		checkNoText(t, strings.Repeat("\xff", n))
	}
	if n := len(greatest().text); n != 835 {
		t.Errorf("P3.1: the greatest plan's text has %d bytes", n)
	}
}

// Texts a few bytes beside those of plans are taken just if they are of one.
func TestTextsBesideThoseOfPlans(t *testing.T) {
	const marks = "pa|;+,ocdwtsiefmr0123456789 -\xff"
	r, well := row(5), wellFormed()
	for range 40000 {
		text, _ := Show(r.plan())
		if r.next(2) == 0 {
			texts := byHand()
			text = texts[r.next(len(texts)-1)].text
		}
		bytes := []byte(text)
		for range 1 + r.next(3) {
			at, mark := r.next(len(bytes)+1), marks[r.next(len(marks))]
			switch {
			case r.next(3) == 0 || at == len(bytes):
				bytes = slices.Insert(bytes, at, mark)
			case r.next(2) == 0 && len(bytes) > 1:
				bytes = slices.Delete(bytes, at, at+1)
			default:
				bytes[at] = mark
			}
		}
		checkRead(t, string(bytes), well(string(bytes)))
	}
}

// All short texts behind a head are taken just if they are of a plan.
func TestAllShortTexts(t *testing.T) {
	const marks = "|;+,osicmr014"
	well := wellFormed()
	texts := []string{"a1|"}
	for range 4 {
		var longer []string
		for _, s := range texts {
			for _, mark := range marks {
				longer = append(longer, s+string(mark))
			}
		}
		texts = longer
		for _, s := range texts {
			checkRead(t, s, well(s))
		}
	}
}

// roomy is a plan of few, in lists with spare room in which other things stand.
func roomy() api.Plan {
	other := txn(api.Op{Kind: -7, A: -7})
	ops := []api.Op{{Kind: api.OpOpen, A: 1, X: 5}, other.Ops[0], other.Ops[0]}
	txns := []api.Txn{txn(ops[:1]...), txn(api.Op{Kind: api.OpSum}), other, other}
	threads := [][]api.Txn{txns[:2], txns[1:2], {other}, {other}}
	return api.Plan{Threads: threads[:2], Attempts: 4, Polite: true}
}

func TestPlansHandedInStay(t *testing.T) {
	p, want := roomy(), roomy()
	if text, e := Show(p); text != "p4|o1,5;s|s" || e != api.OK || !May(p) {
		t.Fatalf("P3.1: Show: %q, error %d", text, e)
	}
	spare := func(p api.Plan) []any {
		threads := p.Threads[:cap(p.Threads)]
		txns := threads[0][:cap(threads[0])]
		return []any{p, threads, txns, txns[0].Ops[:cap(txns[0].Ops)]}
	}
	if !reflect.DeepEqual(spare(p), spare(want)) {
		t.Errorf("R4: the plan handed in is changed: %+v, want %+v", spare(p), spare(want))
	}
	wrong := roomy()
	wrong.Attempts = 0
	checkNoPlan(t, "no attempts", wrong)
	wrong.Attempts = 4
	if !reflect.DeepEqual(spare(wrong), spare(want)) {
		t.Errorf("R4: the plan refused is changed: %+v, want %+v", spare(wrong), spare(want))
	}
}

// overwrite puts wrong things into all lists of a plan, their spare room too, but keeps the lists that one names.
func overwrite(p api.Plan, keepThread int) {
	threads := p.Threads[:cap(p.Threads)]
	for i, txns := range threads {
		if i == keepThread {
			continue
		}
		txns = txns[:cap(txns)]
		for j := range txns {
			ops := txns[j].Ops[:cap(txns[j].Ops)]
			for k := range ops {
				ops[k] = api.Op{Kind: -7, A: -7, B: -7, X: -7}
			}
			txns[j] = api.Txn{}
		}
		threads[i] = nil
	}
}

func TestPlansToldAreTheirOwnMemory(t *testing.T) {
	for _, c := range byHand() {
		one, _ := Parse(c.text)
		two, _ := Parse(c.text)
		overwrite(one, -1)
		if !same(two, c.plan) {
			t.Errorf("R4: two answers of Parse(%q) share memory: %+v", c.text, two)
		}
		if three, e := Parse(c.text); !same(three, c.plan) || e != api.OK {
			t.Errorf("R4: Parse(%q) keeps what it answered: %+v, error %d", c.text, three, e)
		}
	}
}

func TestListsOfOnePlanAreApart(t *testing.T) {
	for _, c := range byHand() {
		for keep := range c.plan.Threads {
			p, _ := Parse(c.text)
			kept := p.Threads[keep]
			overwrite(p, keep)
			if !same(api.Plan{Threads: [][]api.Txn{kept}}, api.Plan{Threads: c.plan.Threads[keep : keep+1]}) {
				t.Errorf("R4: threads of Parse(%q) share memory: %+v", c.text, kept)
			}
			for i := range kept {
				checkOpsApart(t, c, keep, i)
			}
		}
	}
}

// checkOpsApart looks that one transaction's list stays as it is, whatever is put into and behind its thread's others.
func checkOpsApart(t *testing.T, c shown, thread int, index int) {
	t.Helper()
	p, _ := Parse(c.text)
	txns := p.Threads[thread]
	for i, other := range txns {
		if i == index {
			continue
		}
		wrong := append(other.Ops, api.Op{Kind: -7}, api.Op{Kind: -7})
		wrong[0] = api.Op{Kind: -7}
		clear(other.Ops)
	}
	if want := c.plan.Threads[thread][index].Ops; !slices.Equal(txns[index].Ops, want) {
		t.Errorf("R4: transactions of Parse(%q) share memory: %+v, want %+v", c.text, txns[index].Ops, want)
	}
}

func TestCallsFromSeveralGoroutines(t *testing.T) {
	plans := byHand()
	var wg sync.WaitGroup
	for range 4 {
		wg.Go(func() {
			for _, c := range plans {
				checkBoth(t, c)
				checkNoText(t, c.text+"+")
			}
		})
	}
	wg.Wait()
}
