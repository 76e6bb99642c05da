package chapters

import (
	"testing"

	"turnspit/api"
	"turnspit/gfree"
	"turnspit/goro"
	"turnspit/layout"
	"turnspit/spawn"
)

// Promises 22.1 and 22.2: to spawn, line by line.
func TestSpawn(t *testing.T) {
	against(t, subject{want: []string{"refused", "spawned"}, make: func(e *env, l *layout.Layout, a *goro.Arena, t, p int) (machine, func(s *reader)) {
		program := e.below(5)
		x := spawn.New(l, a, t, p, program)
		look := func() seen {
			return seen{g: x.G(), p: x.Hand(), holds: x.Holds(), counts: x.Counts(), was: x.G() != api.None, not: x.Refused()}
		}
		return machine{x, look}, func(s *reader) {
			get := gfree.New(s.l, s.t)
			s.do(get)
			g := get.G()
			if g == api.None {
				s.is.not, s.path = true, "refused"
				return
			}
			s.a.Begin(g, program)
			s.what(g, api.GRunnable)
			s.is.g, s.is.was, s.path = g, true, "spawned"
			s.lays(g, true)
			s.wakes()
		}
	}})
}

// Promises 22.1 and 22.2: to end, line by line.
func TestEnd(t *testing.T) {
	against(t, subject{want: []string{"ended"}, make: func(e *env, l *layout.Layout, a *goro.Arena, t, p int) (machine, func(s *reader)) {
		g := e.below(3)
		x := spawn.NewEnd(l, t, g)
		look := func() seen { return seen{g: api.None, p: api.None, was: x.Ended()} }
		return machine{x, look}, func(s *reader) {
			s.what(g, api.GDead)
			s.is.was, s.path = true, "ended"
			s.do(gfree.NewPut(s.l, s.t, g))
		}
	}})
}
