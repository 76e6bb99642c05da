package chapters

import (
	"testing"

	"turnspit/api"
	"turnspit/globq"
	"turnspit/goro"
	"turnspit/layout"
	"turnspit/ready"
)

// Promises 23.1 and 23.2: to ready, line by line.
func TestReady(t *testing.T) {
	against(t, subject{want: []string{"none", "does not wait", "meanwhile", "readied"}, make: func(e *env, l *layout.Layout, a *goro.Arena, t, p int) (machine, func(s *reader)) {
		number := e.below(40)
		x := ready.New(l, t, p, number)
		look := func() seen { return seen{g: x.G(), p: x.Hand(), holds: x.Holds(), counts: x.Counts()} }
		return machine{x, look}, func(s *reader) {
			gs := s.load(s.l.Word(layout.Gs))
			if gs == 0 {
				s.path = "none"
				return
			}
			g := number % int(gs)
			status := s.l.G(g, layout.GStatus)
			if s.load(status) != api.GWaiting {
				s.path = "does not wait"
				return
			}
			if !s.swap(status, api.GWaiting, api.GRunnable) {
				s.path = "meanwhile"
				return
			}
			s.is.g, s.path = g, "readied"
			s.lays(g, true)
			s.wakes()
		}
	}})
}

// Promises 23.1 and 23.2: to give way, line by line.
func TestGive(t *testing.T) {
	against(t, subject{want: []string{"yields", "preempted", "parks"}, make: func(e *env, l *layout.Layout, a *goro.Arena, t, p int) (machine, func(s *reader)) {
		g, how := e.below(3), e.below(5)-1
		x := ready.NewGive(l, t, p, g, how)
		look := func() seen {
			return seen{g: api.None, p: x.Hand(), holds: x.Holds(), counts: x.Counts(), was: x.Gave()}
		}
		return machine{x, look}, func(s *reader) {
			switch how {
			case ready.Yields:
				s.what(g, api.GRunnable)
				s.is.was, s.path = true, "yields"
				s.lays(g, false)
			case ready.Preempted:
				s.what(g, api.GRunnable)
				put := globq.New(s.l, s.t, []int{g})
				s.is.was, s.path, s.holds = true, "preempted", put.Holds
				s.lock()
				s.do(put)
				s.unlock()
			default:
				s.what(g, api.GWaiting)
				s.is.was, s.path = true, "parks"
				return
			}
			s.wakes()
		}
	}})
}
