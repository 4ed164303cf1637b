// Package word takes the words of the arena apart, and puts them together: see DOC.md, chapter 1.
package word

import (
	"pawl/api"
	"pawl/limit"
)

// kinds is what a word's number is multiplied by, so that its kind has room below.
const kinds = 4

// part is what a word of one kind holds.
type part interface {
	// fits tells whether each field is within its limits.
	fits() bool
	// number tells the fields as one number; only of a part that fits.
	number() int
}

// value is a WordValue's part.
type value struct {
	amount int
}

// mcas is a WordMcas's part: a life of a descriptor's slot.
type mcas struct {
	slot int
	gen  int
}

// entry is a WordEntry's part: one entry of such a descriptor, and who put it there.
type entry struct {
	mcas
	index  int
	thread int
	seq    int
}

// May tells whether w may be a word.
func May(w api.Word) bool {
	p := partOf(w)
	// A field that is no part of the word's kind is lost on the way back, so the two differ.
	return p != nil && p.fits() && wordOf(p) == w
}

// Put tells the number of w.
func Put(w api.Word) (int, api.Errno) {
	if !May(w) {
		return 0, api.ErrWordForm
	}
	return kinds*partOf(w).number() + w.Kind, api.OK
}

// Get tells the word whose number is x.
func Get(x int) (api.Word, api.Errno) {
	if x < 0 {
		return api.Word{}, api.ErrWordForm
	}
	p := split(x%kinds, x/kinds)
	if p == nil || !p.fits() {
		return api.Word{}, api.ErrWordForm
	}
	return wordOf(p), api.OK
}

// partOf picks the fields of w's kind; nil, if there is no such kind.
func partOf(w api.Word) part {
	switch w.Kind {
	case api.WordValue:
		return value{w.Value}
	case api.WordMcas:
		return mcas{w.Slot, w.Gen}
	case api.WordEntry:
		return entry{mcas{w.Slot, w.Gen}, w.Entry, w.Thread, w.Seq}
	}
	return nil
}

// split is a part's number undone; nil, if there is no such kind. The part need not fit.
func split(kind int, n int) part {
	switch kind {
	case api.WordValue:
		return value{n}
	case api.WordMcas:
		return splitMcas(n)
	case api.WordEntry:
		return splitEntry(n)
	}
	return nil
}

func splitMcas(n int) mcas {
	// A slot has the room of an entry, which is more than there are slots.
	return mcas{slot: n % api.MaxEntries, gen: n / api.MaxEntries}
}

func splitEntry(n int) entry {
	n, seq := n/(api.MaxSeq+1), n%(api.MaxSeq+1)
	n, thread := n/api.MaxThreads, n%api.MaxThreads
	n, index := n/api.MaxEntries, n%api.MaxEntries
	return entry{splitMcas(n), index, thread, seq}
}

// wordOf lays a part's fields into a word of its kind.
func wordOf(p part) api.Word {
	if v, ok := p.(value); ok {
		return api.Word{Kind: api.WordValue, Value: v.amount}
	}
	if m, ok := p.(mcas); ok {
		return api.Word{Kind: api.WordMcas, Slot: m.slot, Gen: m.gen}
	}
	if e, ok := p.(entry); ok {
		return api.Word{Kind: api.WordEntry, Slot: e.slot, Gen: e.gen, Entry: e.index, Thread: e.thread, Seq: e.seq}
	}
	return api.Word{}
}

func (v value) fits() bool {
	return limit.Within(v.amount, 0, api.MaxValue)
}

func (m mcas) fits() bool {
	return limit.Within(m.slot, 0, api.MaxSlots-1) && limit.Within(m.gen, 0, api.MaxGen)
}

func (e entry) fits() bool {
	return e.mcas.fits() &&
		limit.Within(e.index, 0, api.MaxEntries-1) &&
		limit.Within(e.thread, 0, api.MaxThreads-1) &&
		limit.Within(e.seq, 0, api.MaxSeq)
}

func (v value) number() int {
	return v.amount
}

func (m mcas) number() int {
	return m.gen*api.MaxEntries + m.slot
}

func (e entry) number() int {
	n := e.mcas.number()
	n = n*api.MaxEntries + e.index
	n = n*api.MaxThreads + e.thread
	return n*(api.MaxSeq+1) + e.seq
}
