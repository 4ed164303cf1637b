package epoch

import (
	"pawl/api"
	"pawl/arena"
	"pawl/limit"
	"pawl/value"
)

// Advance moves the epoch on by one, unless a thread is in a region of another one.
type Advance struct {
	threads int
	// at is how many accesses there were: the epoch's load, one of each thread, and the swap; an advance that is over stands behind the swap.
	at    int
	epoch int
	moved bool
}

// NewAdvance tells a machine that looks at so many threads.
func NewAdvance(threads int) (*Advance, api.Errno) {
	if !limit.Within(threads, 1, api.MaxThreads) {
		return nil, api.ErrEpochForm
	}
	return &Advance{threads: threads}, api.OK
}

// Step makes the next access, if there is one, and tells whether the machine is over.
func (d *Advance) Step(a *arena.Arena) (bool, api.Errno) {
	if d == nil || a == nil {
		return false, api.ErrNil
	}
	err := api.OK
	switch {
	case d.at == 0:
		err = d.load(a)
	case d.at < d.swapAt():
		err = d.ask(a, d.at-1)
	case d.at == d.swapAt():
		d.swap(a)
	}
	return d.at > d.swapAt(), err
}

// Moved tells whether the machine moved the epoch.
func (d *Advance) Moved() bool {
	if d == nil {
		return false
	}
	return d.moved
}

// load loads the epoch.
func (d *Advance) load(a *arena.Arena) api.Errno {
	epoch, is := loadEpoch(a)
	if !is {
		d.stop()
		return api.ErrEpochForm
	}
	d.epoch = epoch
	d.at++
	return api.OK
}

// ask loads what a thread says; one that is in a region of another epoch stops the machine.
func (d *Advance) ask(a *arena.Arena, thread int) api.Errno {
	said, is := loadSaid(a, thread)
	if !is {
		d.stop()
		return api.ErrEpochForm
	}
	if said != outside && said != inside(d.epoch) {
		d.stop()
		return api.OK
	}
	d.at++
	return api.OK
}

// swap moves the epoch, unless another machine has moved it.
func (d *Advance) swap(a *arena.Arena) {
	was := value.Put(d.epoch)
	there, _ := a.Swap(api.EpochAt, was, value.Put(d.epoch+1))
	d.moved = there == was
	d.stop()
}

// swapAt is where the counter stands ahead of the swap.
func (d *Advance) swapAt() int {
	return d.threads + 1
}

// stop sets the counter behind the last access.
func (d *Advance) stop() {
	d.at = d.swapAt() + 1
}
