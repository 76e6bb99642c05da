package spawn_test

import (
	"slices"
	"testing"

	"turnspit/acts"
	"turnspit/api"
	"turnspit/cell"
	"turnspit/gfree"
	"turnspit/layout"
	"turnspit/lock"
	"turnspit/spawn"
)

// ended holds whether it was ended against whether it should be.
func ended(t *testing.T, x *spawn.End, want bool) {
	t.Helper()
	for range 2 {
		if x.Ended() != want {
			t.Errorf("Ended: %v, want %v", x.Ended(), want)
		}
	}
}

// end does the steps of an End that is at its beginning, which has the lock at once.
func end(t *testing.T, l *layout.Layout, m *cell.Mem, x *spawn.End, who int, status, link int, g int, first uint64) {
	t.Helper()
	free := l.Word(layout.FreeG)
	list := append([]acts.Act{acts.Store(status, api.GDead)}, acts.Acquire(l, gsLock, who)...)
	list = append(list, acts.Load(free), acts.Store(link, first), acts.Store(free, uint64(g)+1))
	list = append(list, acts.Release(l, gsLock)...)
	ended(t, x, false)
	if x.Done() {
		t.Errorf("done ahead of the first step")
	}
	for i, a := range list {
		acts.Step(t, m, x, who, a, i == len(list)-1)
		ended(t, x, true)
		if t.Failed() {
			t.Fatalf("step %d", i)
		}
	}
	acts.Rests(t, m, x)
	ended(t, x, true)
}

// Promises 22.1 and 22.2: an End, access by access: it is ended from the first step on, and then put back, ahead of those that lie there; nothing else is touched.
func TestEnd(t *testing.T) {
	for i, who := range whos {
		for _, g := range []int{0, 1, gs - 1} {
			for _, first := range []uint64{0, 9} {
				l, m := lay(t)
				m.Store(99, l.Word(layout.FreeG), first)
				m.Store(99, l.Word(layout.Spinning), 0) // nobody is woken
				before := m.Words()
				m.Store(99, l.G(g, layout.GStatus), uint64(i%6)) // whatever it was
				end(t, l, m, spawn.NewEnd(l, who, g), who, l.G(g, layout.GStatus), l.G(g, layout.GLink), g, first)
				acts.Changed(t, m, before, locked(l, gsLock, map[int]uint64{
					l.Word(layout.FreeG): uint64(g) + 1, l.G(g, layout.GStatus): api.GDead, l.G(g, layout.GLink): first,
				}))
				if m.Bad() != 0 {
					t.Errorf("bad: %d", m.Bad())
				}
			}
		}
	}
}

// Promise 22.1: of a goroutine that there is not the Status and the GLink are at no place; FreeG is its number, and 1 more.
func TestEndOfNoSuchGoroutine(t *testing.T) {
	for _, g := range append(nones, gs) {
		l, m := lay(t)
		end(t, l, m, spawn.NewEnd(l, 3, g), 3, api.None, api.None, g, 0)
		if m.Bad() != 2 {
			t.Errorf("bad: %d", m.Bad())
		}
	}
}

// Promises 22.1 and 22.2: it is ended, though it waits for the lock: it does not lie on the list yet, and is not got.
func TestEndWaits(t *testing.T) {
	l, m := lay(t)
	acts.All(t, m, lock.New(l, gsLock, 51))
	x := spawn.NewEnd(l, 4, 8)
	acts.Step(t, m, x, 4, acts.Store(l.G(8, layout.GStatus), api.GDead), false)
	acts.Step(t, m, x, 4, acts.Add(l.Ticket(gsLock), 1), false)
	for range 20 {
		acts.Step(t, m, x, 4, acts.Load(l.Serving(gsLock)), false)
		ended(t, x, true)
		if list, _ := gfree.List(l, m); len(list) != 0 {
			t.Errorf("free: %v", list)
		}
	}
	m.Store(99, l.Word(layout.FreeG), 5)
	m.Store(99, l.G(4, layout.GLink), 0)
	acts.All(t, m, lock.NewRelease(l, gsLock, 51))
	acts.All(t, m, x)
	if list, right := gfree.List(l, m); !right || !slices.Equal(list, []int{8, 4}) {
		t.Errorf("free: %v, %v", list, right)
	}
}

// Promises 22.1 and 22.3: goroutines that are ended are spawned again, what was ended last first; when none is left, it is refused, and what is ended behind that is spawned again.
func TestEndedAndSpawnedAgain(t *testing.T) {
	l, m := acts.Lay(t, api.Config{Procs: 1, Threads: 2, Gs: 4})
	m.Store(99, l.Word(layout.Spinning), 1)
	a := makeArena(t)
	spawns := func(program, want, begun int) {
		t.Helper()
		x := spawn.New(l, a, 1, 0, program)
		acts.All(t, m, x)
		if x.G() != want || x.Refused() != (want == api.None) {
			t.Errorf("G %d, Refused %v, want %d", x.G(), x.Refused(), want)
		}
		if want == api.None {
			return
		}
		if got := where(a)[want]; got != (place{program: program, begun: begun}) {
			t.Errorf("%d is at %v", want, got)
		}
		if w, _ := m.Peek(l.G(want, layout.GStatus)); w != api.GRunnable {
			t.Errorf("%d: Status %d", want, w)
		}
		a.Step(want)
	}
	ends := func(list ...int) {
		t.Helper()
		for _, g := range list {
			acts.All(t, m, spawn.NewEnd(l, 0, g))
			if w, _ := m.Peek(l.G(g, layout.GStatus)); w != api.GDead {
				t.Errorf("%d: Status %d", g, w)
			}
		}
	}
	spawns(0, 0, 1)
	spawns(1, 1, 1)
	ends(0)
	spawns(2, 0, 2)
	spawns(0, 2, 1)
	spawns(1, 3, 1)
	spawns(0, api.None, 0)
	spawns(9, api.None, 0)
	ends(3, 1)
	spawns(2, 1, 2)
	spawns(0, 3, 2)
	spawns(0, api.None, 0)
	if m.Bad() != 0 {
		t.Errorf("bad: %d", m.Bad())
	}
}
