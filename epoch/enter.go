package epoch

import (
	"pawl/api"
	"pawl/arena"
	"pawl/value"
)

// Where an Enter's counter stands: at the access that its next step makes, or behind the last one.
const (
	atLoad = iota
	atSay
	atCheck
	over
)

// Enter lets a thread enter a region of the epoch.
type Enter struct {
	thread int
	at     int
	epoch  int
}

// NewEnter tells a machine that lets a thread enter.
func NewEnter(thread int) (*Enter, api.Errno) {
	if !isThread(thread) {
		return nil, api.ErrEpochForm
	}
	return &Enter{thread: thread}, api.OK
}

// Step makes the next access, if there is one, and tells whether the machine is over.
func (e *Enter) Step(a *arena.Arena) (bool, api.Errno) {
	if e == nil || a == nil {
		return false, api.ErrNil
	}
	err := api.OK
	switch e.at {
	case atLoad, atCheck:
		err = e.load(a)
	case atSay:
		e.say(a)
	}
	return e.at == over, err
}

// Epoch tells the epoch that was loaded last; 0, until there is one.
func (e *Enter) Epoch() int {
	if e == nil {
		return 0
	}
	return e.epoch
}

// load loads the epoch. One that was said ahead of it must still be there: an advance that came between may not have seen what was said.
func (e *Enter) load(a *arena.Arena) api.Errno {
	epoch, is := loadEpoch(a)
	if !is {
		e.at = over
		return api.ErrEpochForm
	}
	if e.at == atCheck && epoch == e.epoch {
		e.at = over
		return api.OK
	}
	e.epoch, e.at = epoch, atSay
	return api.OK
}

// say stores the epoch where the thread says it. What was there does not count: none but the thread itself says it.
func (e *Enter) say(a *arena.Arena) {
	a.Store(sayAt(e.thread), value.Put(inside(e.epoch)))
	e.at = atCheck
}
