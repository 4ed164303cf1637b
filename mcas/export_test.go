package mcas

// Fork tells a helper that goes on as h does, with memory of its own, so that tests can try each way in which it may go on.
func (h *Help) Fork() *Help {
	f := *h
	f.stack = nil
	for _, one := range h.stack {
		f.stack = append(f.stack, copied(one))
	}
	f.first = copied(h.first)
	if len(h.stack) > 0 {
		f.first = f.stack[0]
	}
	return &f
}

// State is all that a helper's steps hang on, as a value; only of one that has few frames.
type State struct {
	thread, seq, slot, gen int
	won                    bool
	stack                  [4]any
}

// State tells h's.
func (h *Help) State() State {
	s := State{thread: h.thread, seq: h.seq, slot: h.slot, gen: h.gen, won: h.Won()}
	for i, one := range h.stack {
		switch f := one.(type) {
		case *single:
			s.stack[i] = *f
		case *many:
			s.stack[i] = valueOf(f)
		}
	}
	return s
}

// Waiting tells the cells of the frames that have that of another descriptor atop.
func (h *Help) Waiting() []int {
	var cells []int
	for i, one := range h.stack {
		if i == len(h.stack)-1 {
			break
		}
		if _, is := h.stack[i+1].(*many); is {
			cells = append(cells, one.(*many).cell)
		}
	}
	return cells
}

// Depth tells how many frames there are.
func (h *Help) Depth() int {
	return len(h.stack)
}

// valueOf is a frame without what is no value in it, and without what it uses no more.
func valueOf(m *many) any {
	v, other := *m, [2]int{}
	v.other = nil
	if v.at == manyOther {
		other[0], other[1] = m.other.life()
	}
	return struct {
		many
		other [2]int
	}{v, other}
}

func copied(f frame) frame {
	switch f := f.(type) {
	case *single:
		c := *f
		return &c
	case *many:
		c := *f
		if c.other != nil {
			c.other = copied(c.other)
		}
		return &c
	}
	return nil
}
