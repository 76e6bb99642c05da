package chapters

import (
	"testing"

	"turnspit/api"
	"turnspit/goro"
	"turnspit/hand"
	"turnspit/idlep"
	"turnspit/layout"
	"turnspit/ring"
	"turnspit/wake"
)

// starts starts a thread with a processor that was left.
func (s *reader) starts(p int, spins bool, path string) {
	x := wake.New(s.l, s.t, p, spins, true)
	s.is.counts, s.gotten, s.path = false, x.Holds, path
	s.do(x)
	if x.T() == api.None {
		s.path += ", none"
	}
}

// handsOver is to hand over, line by line.
func (s *reader) handsOver(p int) {
	s.is.p, s.gotten = p, nil
	look := ring.New(s.l, s.t, p)
	s.do(look)
	if !look.Empty() || s.word(layout.GlobSize) != 0 {
		s.lock()
		s.starts(p, false, "work")
		return
	}
	if s.word(layout.Spinning) == 0 && s.word(layout.IdlePs) == 0 && s.swap(s.l.Word(layout.Spinning), 0, 1) {
		s.is.counts = true
		s.puts(layout.Needs, 0)
		s.lock()
		s.starts(p, true, "counts")
		return
	}
	s.lock()
	if s.word(layout.GlobSize) != 0 {
		s.starts(p, false, "filled")
		return
	}
	if s.word(layout.Needs) != 0 {
		s.add(s.l.Word(layout.Spinning))
		s.is.counts = true
		s.puts(layout.Needs, 0)
		s.starts(p, true, "needed")
		return
	}
	put := idlep.New(s.l, s.t, p)
	s.gotten, s.path = put.Holds, "lies"
	s.do(put)
	s.unlock()
}

// storesMore stores something where who hands over, and the monitor, look.
func storesMore(e *env) {
	p := e.below(e.l.Config().Procs)
	switch e.below(16) {
	case 0, 1:
		e.store(e.l.Word(layout.Needs), e.one(0, 1))
	case 2:
		e.store(e.l.Word(layout.Spinning), 0)
	case 3:
		e.store(e.l.Word(layout.IdlePs), e.one(0, 0, 1, 6, 1<<31-1, 1<<31))
	case 4:
		e.store(e.l.Word(layout.GlobSize), e.one(0, 0, 0, 1))
	case 5:
		e.store(e.l.Word(layout.IdleMs), e.one(0, 0, 1, 2, 1<<31-1, 1<<31))
	case 6:
		e.store(e.l.Word(layout.Threads), e.one(0, 1, 3, 6, 7, 1<<31-1, 1<<31))
	case 7, 8:
		e.store(e.l.Proc(p, layout.Turns), e.one(0, 0, 1, 61))
	case 9, 10:
		e.store(e.l.Proc(p, layout.Calls), e.one(0, 0, 1, 1<<32-1))
	case 11, 12:
		now, _ := e.a.Peek(e.l.Word(layout.Now))
		e.store(e.l.Word(layout.Now), now+e.one(1, api.Quantum-1, api.Quantum, api.Quantum+1, 1<<32-1))
	default:
		for p := range e.l.Config().Procs {
			e.store(e.l.Proc(p, layout.Head), 5)
			e.store(e.l.Proc(p, layout.Tail), e.one(5, 5, 6))
			e.store(e.l.Proc(p, layout.Next), e.one(0, 0, 1))
		}
	}
}

// Promises 25.1 and 25.2: to hand over, line by line.
func TestOver(t *testing.T) {
	ways := []string{"work", "work, none", "counts", "counts, none", "filled", "needed", "needed, none", "lies"}
	against(t, subject{want: ways, also: storesMore, make: func(e *env, l *layout.Layout, a *goro.Arena, t, p int) (machine, func(s *reader)) {
		x := hand.New(l, t, p)
		look := func() seen { return seen{g: api.None, p: x.Holds(), counts: x.Counts()} }
		return machine{x, look}, func(s *reader) { s.handsOver(p) }
	}})
}
