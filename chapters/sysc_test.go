package chapters

import (
	"testing"

	"turnspit/api"
	"turnspit/globq"
	"turnspit/goro"
	"turnspit/layout"
	"turnspit/sysc"
)

// Promises 24.1 and 24.2: to go in, line by line.
func TestIn(t *testing.T) {
	against(t, subject{want: []string{"in"}, make: func(e *env, l *layout.Layout, a *goro.Arena, t, p int) (machine, func(s *reader)) {
		g := e.below(3)
		x := sysc.New(l, t, p, g)
		look := func() seen { return seen{g: api.None, p: api.None, was: x.Went()} }
		return machine{x, look}, func(s *reader) {
			s.what(g, api.GSyscall)
			s.is.was, s.path = true, "in"
			s.add(s.l.Proc(s.p, layout.Calls))
			s.store(s.l.Proc(s.p, layout.Status), api.PSyscall)
		}
	}})
}

// comesOut is to come out, line by line.
func (s *reader) comesOut(g int) {
	if s.swap(s.l.Proc(s.p, layout.Status), api.PSyscall, api.PRunning) {
		s.is.p = s.p
		s.add(s.l.Proc(s.p, layout.Calls))
		s.what(g, api.GRunning)
		s.is.was, s.path = true, "kept"
		return
	}
	s.path = "none idle"
	if s.load(s.l.Word(layout.IdleP)) != 0 {
		s.lock()
		is := s.gets()
		s.unlock()
		if is {
			s.runsProc(s.gotten())
			s.what(g, api.GRunning)
			s.is.was, s.path = true, "another"
			return
		}
		s.path = "went away"
	}
	s.what(g, api.GRunnable)
	put := globq.New(s.l, s.t, []int{g})
	s.is.was, s.is.not, s.holds = true, true, put.Holds
	s.lock()
	if s.gets() {
		s.unlock()
		s.runsProc(s.gotten())
		s.path += ", came"
		return
	}
	s.do(put)
	s.unlock()
}

// Promises 24.1 and 24.2: to come out, line by line.
func TestOut(t *testing.T) {
	ways := []string{"kept", "another", "none idle", "none idle, came", "went away", "went away, came"}
	against(t, subject{want: ways, make: func(e *env, l *layout.Layout, a *goro.Arena, t, p int) (machine, func(s *reader)) {
		g := e.below(3)
		x := sysc.NewOut(l, t, p, g)
		look := func() seen {
			return seen{g: api.None, p: x.P(), holds: x.Holds(), was: x.Came(), not: x.Came() && !x.Runs()}
		}
		return machine{x, look}, func(s *reader) { s.comesOut(g) }
	}})
}
