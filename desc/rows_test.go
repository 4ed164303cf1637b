package desc_test

import (
	"slices"
	"testing"

	"pawl/api"
	"pawl/arena"
	"pawl/desc"
)

// viewOf is a view in which the cells of these bits are known; what is not known has numbers, too.
func viewOf(bits int) api.View {
	var v api.View
	for cell := range 16 {
		v.Known[cell] = bits>>cell&1 == 1
		v.Was[cell], v.Now[cell] = 100+cell, 300-cell
	}
	return v
}

// checkRows looks what Rows tells of a view.
func checkRows(t *testing.T, v api.View, want ...api.Swap) {
	t.Helper()
	if got := desc.Rows(v); !slices.Equal(got, want) {
		t.Fatalf("P13.1: Rows(%+v): %v, want %v", v, got, want)
	}
}

func TestRowsOfNoCell(t *testing.T) {
	checkRows(t, api.View{})
	checkRows(t, viewOf(0))
}

func TestRowsByHand(t *testing.T) {
	checkRows(t, viewOf(1), api.Swap{Cell: 0, Was: 100, Now: 300})
	checkRows(t, viewOf(1<<15), api.Swap{Cell: 15, Was: 115, Now: 285})
	checkRows(t, viewOf(1<<0|1<<15), api.Swap{Cell: 0, Was: 100, Now: 300}, api.Swap{Cell: 15, Was: 115, Now: 285})
	checkRows(t, viewOf(1<<2|1<<7|1<<8), api.Swap{Cell: 2, Was: 102, Now: 298}, api.Swap{Cell: 7, Was: 107, Now: 293}, api.Swap{Cell: 8, Was: 108, Now: 292})
}

// A cell that is known has an entry, also where nothing is written, or all is 0.
func TestRowsOfCellsThatStay(t *testing.T) {
	checkRows(t, api.View{Known: [16]bool{4: true}}, api.Swap{Cell: 4})
	checkRows(t, api.View{Known: [16]bool{4: true, 5: true}, Was: [16]int{5: 8}, Now: [16]int{5: 8}}, api.Swap{Cell: 4}, api.Swap{Cell: 5, Was: 8, Now: 8})
	checkRows(t, api.View{Known: [16]bool{6: true}, Was: [16]int{mostValue, 6: mostValue}, Now: [16]int{6: mostValue, 7: mostValue}}, api.Swap{Cell: 6, Was: mostValue, Now: mostValue})
}

func TestRowsOfAllCells(t *testing.T) {
	var want []api.Swap
	for cell := range 16 {
		want = append(want, api.Swap{Cell: cell, Was: 100 + cell, Now: 300 - cell})
	}
	checkRows(t, viewOf(1<<16-1), want...)
}

func TestRowsOfEachSetOfCells(t *testing.T) {
	for bits := range 1 << 16 {
		v := viewOf(bits)
		got := desc.Rows(v)
		n := 0
		for cell := range 16 {
			if bits>>cell&1 == 0 {
				continue
			}
			if n == len(got) || got[n] != (api.Swap{Cell: cell, Was: 100 + cell, Now: 300 - cell}) {
				t.Fatalf("P13.1: Rows of the bits %b: %v", bits, got)
			}
			n++
		}
		if n != len(got) {
			t.Fatalf("P13.1: Rows of the bits %b: %v", bits, got)
		}
	}
}

// Rows refuses nothing: it tells what a view holds, whatever that is.
func TestRowsOfAnyNumbers(t *testing.T) {
	for _, x := range append(noValues(), 0, 1, mostValue) {
		for _, cell := range []int{0, 5, 15} {
			v := api.View{}
			v.Known[cell], v.Was[cell], v.Now[15-cell] = true, x, x
			checkRows(t, v, api.Swap{Cell: cell, Was: x})
			v.Now[cell], v.Was[cell] = x, 3
			checkRows(t, v, api.Swap{Cell: cell, Was: 3, Now: x})
		}
	}
}

func TestRowsIsNewMemory(t *testing.T) {
	v := viewOf(1<<16 - 1)
	one, two := desc.Rows(v), desc.Rows(v)
	want := slices.Clone(one)
	for i := range one {
		one[i] = api.Swap{Cell: -1}
	}
	if !slices.Equal(two, want) || v != viewOf(1<<16-1) {
		t.Errorf("R4: an answer behind a change of another one: %v", two)
	}
	three := desc.Rows(viewOf(6))
	_ = append(desc.Rows(viewOf(6)), api.Swap{Cell: 15})
	if !slices.Equal(three, []api.Swap{{Cell: 1, Was: 101, Now: 299}, {Cell: 2, Was: 102, Now: 298}}) {
		t.Errorf("R4: an answer behind another one: %v", three)
	}
}

// What a view's rows are is what a writer writes, and what Get tells.
func TestRowsThereAndBack(t *testing.T) {
	r := draw(3)
	a := arena.New()
	for range 1000 {
		slot, gen, v := r.next(12), r.next(mostGen+1), viewOf(r.next(1<<16))
		write(t, a, slot, gen, desc.Rows(v)...)
		life, decision, ss, e := desc.Get(a, slot)
		if life != gen || decision != 0 || !slices.Equal(ss, desc.Rows(v)) || e != api.OK {
			t.Fatalf("P13.3: Get of slot %d: %d, %d, %v, error %d, want life %d of %v", slot, life, decision, ss, e, gen, desc.Rows(v))
		}
	}
}
