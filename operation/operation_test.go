package operation

import (
	"slices"
	"sync"
	"testing"

	"pawl/api"
)

const (
	leastInt = -1 << 63
	mostInt  = 1<<63 - 1
)

// kind is a kind of operation, and the most that A, B and X may be there.
type kind struct {
	name    string
	number  int
	a, b, x int
}

// kinds are all of them, with their limits as numbers.
func kinds() []kind {
	return []kind{
		{"open", 0, 3, 0, 1048575},
		{"close", 1, 3, 0, 0},
		{"deposit", 2, 3, 0, 1048575},
		{"withdraw", 3, 3, 0, 1048575},
		{"transfer", 4, 3, 3, 1048575},
		{"sum", 5, 0, 0, 0},
		{"insert", 6, 4, 0, 1},
		{"erase", 7, 4, 0, 0},
		{"find", 8, 4, 0, 0},
		{"min", 9, 0, 0, 0},
		{"range", 10, 4, 4, 0},
	}
}

// amounts are numbers about each limit, and far from any.
func amounts() []int {
	return []int{leastInt, -1048576, -2, -1, 0, 1, 2, 3, 4, 5, 6, 16, 1048574, 1048575, 1048576, 1 << 32, mostInt}
}

func TestFieldsKeepTheirLimits(t *testing.T) {
	for _, k := range kinds() {
		for _, a := range amounts() {
			for _, b := range amounts() {
				for _, x := range amounts() {
					want := 0 <= a && a <= k.a && 0 <= b && b <= k.b && 0 <= x && x <= k.x
					o := api.Op{Kind: k.number, A: a, B: b, X: x}
					if got := May(o); got != want {
						t.Errorf("P7.1: %s %+v: may %v", k.name, o, got)
					}
				}
			}
		}
	}
}

func TestKindsThatAreNone(t *testing.T) {
	for _, number := range []int{leastInt, -11, -2, -1, 11, 12, 16, 256, 1 << 32, mostInt} {
		for _, o := range []api.Op{{Kind: number}, {Kind: number, A: 1}, {Kind: number, A: 1, B: 1, X: 1}} {
			if May(o) {
				t.Errorf("P7.1: %+v may be", o)
			}
		}
	}
}

func TestTransactionsOfSoManyOperations(t *testing.T) {
	for _, k := range kinds() {
		o := api.Op{Kind: k.number, A: k.a, B: k.b, X: k.x}
		for _, n := range []int{0, 1, 2, 3, 4, 16, 70000} {
			if got, want := MayAll(slices.Repeat([]api.Op{o}, n)...), n == 1 || n == 2; got != want {
				t.Errorf("P7.1: %d of %+v: may %v", n, o, got)
			}
		}
	}
}

func TestTransactionsOfWrongOperations(t *testing.T) {
	good := api.Op{Kind: 5}
	for _, bad := range []api.Op{{Kind: -1}, {Kind: 11}, {Kind: 5, A: 1}, {Kind: 0, A: 4}, {Kind: 10, B: 5}} {
		for _, ops := range [][]api.Op{{bad}, {bad, bad}, {bad, good}, {good, bad}} {
			if MayAll(ops...) {
				t.Errorf("P7.1: %+v may be", ops)
			}
		}
	}
}

func TestMayFromSeveralGoroutines(t *testing.T) {
	var wg sync.WaitGroup
	for range 4 {
		wg.Go(func() {
			for _, k := range kinds() {
				if o := (api.Op{Kind: k.number, A: k.a, B: k.b, X: k.x}); !May(o) {
					t.Errorf("P7.1: %+v may not be", o)
				}
			}
		})
	}
	wg.Wait()
}
