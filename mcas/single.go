package mcas

import (
	"pawl/api"
	"pawl/arena"
)

// Where the counter of a WordEntry's frame stands: at the step of the chapter's list that comes next, or behind the last one.
const (
	singleCell = iota
	singleWas
	singleOpen
	singleSettle
	singleOver
)

// single is the frame of a WordEntry: it takes that reference out of its cell.
type single struct {
	work
	ref int
}

// step makes the next access; one comes behind the other.
func (s *single) step(_ *Help, a *arena.Arena) api.Errno {
	at := s.at
	s.at++
	switch at {
	case singleCell:
		return s.loadCell(a)
	case singleWas:
		return s.loadWas(a)
	case singleOpen:
		return s.loadOpen(a)
	case singleSettle:
		s.settle(a, s.ref)
	}
	return api.OK
}

func (s *single) over() bool {
	return s.at == singleOver
}
