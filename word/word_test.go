package word

import (
	"sync"
	"testing"

	"pawl/api"
)

const (
	leastInt = -1 << 63
	mostInt  = 1<<63 - 1
)

// field is a field of a word: how to set it, and the most it may be for a kind (-1: it must be zero there).
type field struct {
	name string
	set  func(w *api.Word, x int)
	most [3]int
}

func fields() []field {
	return []field{
		{"Value", func(w *api.Word, x int) { w.Value = x }, [3]int{1099511627775, -1, -1}},
		{"Slot", func(w *api.Word, x int) { w.Slot = x }, [3]int{-1, 11, 11}},
		{"Gen", func(w *api.Word, x int) { w.Gen = x }, [3]int{-1, 65535, 65535}},
		{"Entry", func(w *api.Word, x int) { w.Entry = x }, [3]int{-1, 15, -1}},
		{"Thread", func(w *api.Word, x int) { w.Thread = x }, [3]int{-1, 3, -1}},
		{"Seq", func(w *api.Word, x int) { w.Seq = x }, [3]int{-1, 1048575, -1}},
	}
}

// numbered are words with their numbers, worked out by hand.
func numbered() map[int]api.Word {
	return map[int]api.Word{
		0:                       {Kind: api.WordValue},
		4:                       {Kind: api.WordValue, Value: 1},
		4398046511100:           {Kind: api.WordValue, Value: api.MaxValue},
		2:                       {Kind: api.WordMcas},
		4*11 + 2:                {Kind: api.WordMcas, Slot: 11},
		4*16 + 2:                {Kind: api.WordMcas, Gen: 1},
		4*(16*65535+11) + 2:     {Kind: api.WordMcas, Slot: 11, Gen: api.MaxGen},
		1:                       {Kind: api.WordEntry},
		4*1 + 1:                 {Kind: api.WordEntry, Seq: 1},
		4*1048575 + 1:           {Kind: api.WordEntry, Seq: api.MaxSeq},
		4*1048576 + 1:           {Kind: api.WordEntry, Thread: 1},
		4*4*1048576 + 1:         {Kind: api.WordEntry, Entry: 1},
		4*16*4*1048576 + 1:      {Kind: api.WordEntry, Slot: 1},
		4*16*16*4*1048576 + 1:   {Kind: api.WordEntry, Gen: 1},
		4*(7*4*1048576) + 5:     {Kind: api.WordEntry, Entry: 7, Seq: 1},
		281473902968829:         {Kind: api.WordEntry, Slot: 11, Gen: api.MaxGen, Entry: 15, Thread: 3, Seq: api.MaxSeq},
		281473902968829 - 4*2:   {Kind: api.WordEntry, Slot: 11, Gen: api.MaxGen, Entry: 15, Thread: 3, Seq: api.MaxSeq - 2},
		281473902968829 - 1<<22: {Kind: api.WordEntry, Slot: 11, Gen: api.MaxGen, Entry: 15, Thread: 2, Seq: api.MaxSeq},
	}
}

// checkWord looks that w may be, and goes there and back.
func checkWord(t *testing.T, w api.Word) {
	t.Helper()
	x, e := Put(w)
	back, f := Get(x)
	if !May(w) || e != api.OK || f != api.OK || back != w {
		t.Errorf("P1.1: %+v: may %v; number %d, error %d; back %+v, error %d", w, May(w), x, e, back, f)
	}
}

// checkNoWord looks that w is refused.
func checkNoWord(t *testing.T, w api.Word) {
	t.Helper()
	if x, e := Put(w); May(w) || x != 0 || e != api.ErrWordForm {
		t.Errorf("P1.1: %+v is no word: may %v; number %d, error %d", w, May(w), x, e)
	}
}

// checkNoNumber looks that x is refused.
func checkNoNumber(t *testing.T, x int) {
	t.Helper()
	if w, e := Get(x); w != (api.Word{}) || e != api.ErrWordForm {
		t.Errorf("P1.1: %d is of no word: %+v, error %d", x, w, e)
	}
}

func TestNumbersAreAsTold(t *testing.T) {
	for want, w := range numbered() {
		if x, e := Put(w); x != want || e != api.OK {
			t.Errorf("P1.1: Put(%+v): %d, error %d, want %d", w, x, e, want)
		}
		if got, e := Get(want); got != w || e != api.OK {
			t.Errorf("P1.1: Get(%d): %+v, error %d, want %+v", want, got, e, w)
		}
	}
}

func TestFieldsKeepTheirLimits(t *testing.T) {
	for kind := range 3 {
		for _, f := range fields() {
			most := f.most[kind]
			if most >= 0 {
				for _, x := range []int{0, 1, most - 1, most} {
					w := api.Word{Kind: kind}
					f.set(&w, x)
					checkWord(t, w)
				}
			}
			// A field of another kind may be zero only.
			for _, x := range []int{max(most, 0) + 1, mostInt, mostInt / 4, 1 << 62, -1, leastInt} {
				w := api.Word{Kind: kind}
				f.set(&w, x)
				checkNoWord(t, w)
			}
		}
	}
}

func TestOneFieldWrongAmongLargest(t *testing.T) {
	for kind := range 3 {
		full := api.Word{Kind: kind}
		for _, f := range fields() {
			f.set(&full, max(f.most[kind], 0))
		}
		checkWord(t, full)
		for _, f := range fields() {
			w := full
			f.set(&w, max(f.most[kind], 0)+1)
			checkNoWord(t, w)
		}
	}
}

func TestKindsThatAreNone(t *testing.T) {
	for _, kind := range []int{3, 4, 5, 6, -1, -2, -4, mostInt, leastInt} {
		checkNoWord(t, api.Word{Kind: kind})
		checkNoWord(t, api.Word{Kind: kind, Value: 1})
		checkNoWord(t, api.Word{Kind: kind, Slot: 1, Gen: 1})
	}
}

func TestWordsGoThereAndBack(t *testing.T) {
	for slot := range api.MaxSlots {
		for _, gen := range []int{0, 1, 2, 4095, api.MaxGen} {
			checkWord(t, api.Word{Kind: api.WordMcas, Slot: slot, Gen: gen})
			for entry := range api.MaxEntries {
				for thread := range api.MaxThreads {
					for _, seq := range []int{0, 1, 65536, api.MaxSeq} {
						checkWord(t, api.Word{Kind: api.WordEntry, Slot: slot, Gen: gen, Entry: entry, Thread: thread, Seq: seq})
					}
				}
			}
		}
	}
}

// Of the numbers in a row, just those that Put tells of a word are Get's.
func TestEachNumberInARow(t *testing.T) {
	const end = 1 << 14
	told := map[int]api.Word{}
	note := func(w api.Word) {
		if x, e := Put(w); e == api.OK && x < end {
			told[x] = w
		}
	}
	for n := range end {
		note(api.Word{Kind: api.WordValue, Value: n})
		note(api.Word{Kind: api.WordEntry, Seq: n})
		note(api.Word{Kind: api.WordMcas, Slot: n % api.MaxSlots, Gen: n / api.MaxSlots})
	}
	for x := range end {
		w, there := told[x]
		if !there {
			checkNoNumber(t, x)
			continue
		}
		if got, e := Get(x); got != w || e != api.OK {
			t.Errorf("P1.1: Get(%d): %+v, error %d, want %+v", x, got, e, w)
		}
	}
}

func TestNumbersOfNoWord(t *testing.T) {
	for _, x := range []int{
		-1, -2, -3, -4, -5, -8, leastInt, leastInt + 1, leastInt + 2, leastInt + 3,
		3, 7, 4*api.MaxValue + 3, mostInt,
		4 * (api.MaxValue + 1), mostInt - 3,
		4*12 + 2, 4*13 + 2, 4*14 + 2, 4*15 + 2, 4*(16*65535+12) + 2, 4*(16*65536) + 2, mostInt - 1,
		4*(12<<26) + 1, 4*(15<<26) + 1, 4*(65536<<30) + 1, 281473902968829 + 4, mostInt - 2,
	} {
		checkNoNumber(t, x)
	}
}

func TestCallsFromSeveralGoroutines(t *testing.T) {
	var wg sync.WaitGroup
	for thread := range api.MaxThreads {
		wg.Go(func() {
			for seq := range 2000 {
				checkWord(t, api.Word{Kind: api.WordEntry, Thread: thread, Seq: seq})
			}
		})
	}
	wg.Wait()
}
