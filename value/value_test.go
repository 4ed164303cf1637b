package value

import (
	"sync"
	"testing"

	"pawl/api"
	"pawl/word"
)

const (
	leastInt = -1 << 63
	mostInt  = 1<<63 - 1
	most     = 1099511627775
)

// check looks what Get tells of x.
func check(t *testing.T, x int, upTo int, want int, wantIs bool) {
	t.Helper()
	if v, is := Get(x, upTo); v != want || is != wantIs {
		t.Errorf("Get(%d, %d): %d, %v, want %d, %v", x, upTo, v, is, want, wantIs)
	}
}

func TestThereAndBack(t *testing.T) {
	for _, v := range []int{0, 1, 2, 12, 13, 16, 255, 256, 1 << 32, most - 1, most} {
		if x := Put(v); x != 4*v {
			t.Errorf("Put(%d): %d", v, x)
		}
		check(t, 4*v, most, v, true)
		check(t, 4*v, v, v, true)
		check(t, 4*v, v-1, 0, false)
	}
}

func TestPutOfWhatIsNoValue(t *testing.T) {
	for _, v := range []int{leastInt, -1 << 40, -2, -1, most + 1, most + 2, 1 << 62, mostInt} {
		if x := Put(v); x != 0 {
			t.Errorf("Put(%d), which is no value: %d", v, x)
		}
	}
}

func TestWordsOfNoValue(t *testing.T) {
	for _, w := range []api.Word{
		{Kind: api.WordMcas}, {Kind: api.WordMcas, Slot: 11, Gen: 3},
		{Kind: api.WordEntry}, {Kind: api.WordEntry, Slot: 2, Gen: 1, Entry: 3, Thread: 3, Seq: 9},
	} {
		x, e := word.Put(w)
		if e != api.OK {
			t.Fatalf("P1.1: %+v: error %d", w, e)
		}
		check(t, x, most, 0, false)
		check(t, x, mostInt, 0, false)
	}
}

func TestNoWords(t *testing.T) {
	for _, x := range []int{leastInt, leastInt + 4, -1 << 32, -5, -4, -3, -1, 3, 7, 47, 4*most + 3, 4*most + 4, 1 << 62, mostInt - 3, mostInt} {
		check(t, x, most, 0, false)
		check(t, x, mostInt, 0, false)
	}
}

func TestNoneIsUpToALimitBelowZero(t *testing.T) {
	for _, upTo := range []int{-1, leastInt} {
		check(t, 0, upTo, 0, false)
		check(t, 4, upTo, 0, false)
	}
}

func TestFromSeveralGoroutines(t *testing.T) {
	var wg sync.WaitGroup
	for n := range 4 {
		wg.Go(func() {
			for v := range 100 {
				check(t, Put(v+n), v+n, v+n, true)
				check(t, Put(v+n)+1, most, 0, false)
			}
		})
	}
	wg.Wait()
}
