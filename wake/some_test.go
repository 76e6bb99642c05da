package wake_test

import (
	"math"
	"slices"
	"testing"

	"turnspit/acts"
	"turnspit/api"
	"turnspit/cell"
	"turnspit/idlep"
	"turnspit/layout"
	"turnspit/wake"
)

// What a Wake tells: nothing, that it counts, that it counts and has a processor, that it has one.
func nothing() seen           { return seen{api.None, api.None, false} }
func counting() seen          { return seen{api.None, api.None, true} }
func countingWith(p int) seen { return seen{p, api.None, true} }
func having(p int) seen       { return seen{p, api.None, false} }

// counts does the steps of a Wake until it has the lock.
func counts(t *testing.T, l *layout.Layout, m *cell.Mem, x machine, who int) {
	t.Helper()
	tells(t, x, nothing())
	goes(t, m, x, who, nothing(), acts.Load(l.Word(layout.Spinning)))
	goes(t, m, x, who, counting(), acts.Swap(l.Word(layout.Spinning), 0, 1))
	words(t, l, m, 1, 7)
	goes(t, m, x, who, counting(), acquires(l, who)...)
}

// getsP does the steps by which a Wake gets p off the list: behind the last one the thread that is started is to count.
func getsP(t *testing.T, l *layout.Layout, m *cell.Mem, x machine, who, p int) {
	t.Helper()
	mask, link := word(l, m, layout.Mask), l.Proc(p, layout.PLink)
	behind, _ := m.Peek(link)
	goes(t, m, x, who, counting(), acts.Load(l.Word(layout.IdleP)), acts.Load(link), acts.Load(l.Word(layout.Mask)), acts.Store(l.Word(layout.Mask), mask&^(1<<p)))
	goes(t, m, x, who, countingWith(p), acts.Store(l.Word(layout.IdleP), behind))
	goes(t, m, x, who, having(p), acts.Add(l.Word(layout.IdlePs), less))
}

// Promise 19.1: a Wake where Spinning is not 0, whatever it is, is done by a load.
func TestWakeSpinning(t *testing.T) {
	for _, who := range whos {
		for _, spinning := range []uint64{1, 2, procs, less, 1 << 32, 1 << 63, math.MaxUint64} {
			l, m := lay(t)
			idle(t, l, m, 3)
			m.Store(99, l.Word(layout.Spinning), spinning)
			before := m.Words()
			x := wake.NewWake(l, who)
			tells(t, x, nothing())
			ends(t, m, x, who, nothing(), acts.Load(l.Word(layout.Spinning)))
			acts.Changed(t, m, before, nil)
		}
	}
}

// Promise 19.1: a Wake whose Swap is not done, because another one stored between, is done by it, and changes nothing; it never counts.
func TestWakeSwapNotDone(t *testing.T) {
	for _, who := range whos {
		for _, spinning := range []uint64{1, 5, 1 << 32, math.MaxUint64} {
			l, m := lay(t)
			idle(t, l, m, 3)
			x := wake.NewWake(l, who)
			goes(t, m, x, who, nothing(), acts.Load(l.Word(layout.Spinning)))
			m.Store(99, l.Word(layout.Spinning), spinning)
			before := m.Words()
			ends(t, m, x, who, nothing(), acts.Swap(l.Word(layout.Spinning), 0, 1))
			acts.Changed(t, m, before, nil)
		}
	}
}

// Promise 19.1: of two Wakes that both saw that nobody spins one goes on.
func TestWakeTwo(t *testing.T) {
	l, m := lay(t)
	a, b := wake.NewWake(l, 1), wake.NewWake(l, 2)
	a.Step(m)
	b.Step(m)
	goes(t, m, b, 2, counting(), acts.Swap(l.Word(layout.Spinning), 0, 1))
	ends(t, m, a, 1, nothing(), acts.Swap(l.Word(layout.Spinning), 0, 1))
	words(t, l, m, 1, 7)
}

// Promise 19.1: a Wake that gets no processor says that somebody is needed, and counts itself out, access by access; IdleP alone tells whether there is one.
func TestWakeNoProcessor(t *testing.T) {
	for _, who := range whos {
		l, m := lay(t)
		m.Store(99, l.Word(layout.IdlePs), 3)
		m.Store(99, l.Word(layout.Mask), 9)
		before := m.Words()
		x := wake.NewWake(l, who)
		counts(t, l, m, x, who)
		goes(t, m, x, who, counting(), acts.Load(l.Word(layout.IdleP)))
		words(t, l, m, 1, 7)
		goes(t, m, x, who, counting(), acts.Store(l.Word(layout.Needs), 1))
		words(t, l, m, 1, 1)
		goes(t, m, x, who, nothing(), acts.Add(l.Word(layout.Spinning), less))
		words(t, l, m, 0, 1)
		goes(t, m, x, who, nothing(), acts.Store(l.Owner(0), 0))
		ends(t, m, x, who, nothing(), acts.Add(l.Serving(0), 1))
		acts.Changed(t, m, before, locked(l, map[int]uint64{l.Word(layout.Needs): 1}))
	}
}

// Promise 19.1: a Wake that gets a processor, and a thread off the list, starts that one, spinning, access by access; Needs is left as it is.
func TestWakeStarts(t *testing.T) {
	for i, who := range whos {
		for _, p := range ps {
			l, m := lay(t)
			one := []int{0, 5, threads - 1}[i%3]
			idle(t, l, m, 7, p)
			idleThreads(t, l, m, 9, 3, one)
			before := m.Words()
			x := wake.NewWake(l, who)
			counts(t, l, m, x, who)
			getsP(t, l, m, x, who, p)
			goes(t, m, x, who, having(p),
				acts.Load(l.Word(layout.IdleM)), acts.Load(l.Thread(one, layout.MLink)), acts.Store(l.Word(layout.IdleM), 4), acts.Add(l.Word(layout.IdleMs), less))
			words(t, l, m, 1, 7)
			gives(t, l, m, x, who, p, one, true, having(p), nothing())
			words(t, l, m, 1, 7)
			acts.Changed(t, m, before, locked(l, map[int]uint64{
				l.Word(layout.Spinning): 1, l.Word(layout.IdleM): 4, l.Word(layout.IdleMs): 1,
				l.Word(layout.Mask): 1 << 7, l.Word(layout.IdleP): 8, l.Word(layout.IdlePs): 1,
				l.Thread(one, layout.Given): given(p, true), l.Thread(one, layout.Note): 1,
			}))
			if m.Bad() != 0 {
				t.Errorf("bad: %d", m.Bad())
			}
		}
	}
}

// Promise 19.1: a Wake that gets a processor, and a new thread, starts that one.
func TestWakeStartsNew(t *testing.T) {
	for i, who := range whos {
		l, m := lay(t)
		p, one := ps[i%len(ps)], i*10
		idle(t, l, m, p)
		idleThreads(t, l, m, uint64(one))
		x := wake.NewWake(l, who)
		counts(t, l, m, x, who)
		getsP(t, l, m, x, who, p)
		goes(t, m, x, who, having(p), acts.Load(l.Word(layout.IdleM)), acts.Load(l.Word(layout.Threads)), acts.Store(l.Word(layout.Threads), uint64(one)+1))
		gives(t, l, m, x, who, p, one, true, having(p), nothing())
		words(t, l, m, 1, 7)
	}
}

// Promise 19.1: a Wake that gets a processor, and no thread, says that somebody is needed, counts out, and lets the processor lie on the list again, as one that was idle.
func TestWakeNoThread(t *testing.T) {
	for i, who := range whos {
		l, m := lay(t)
		p := ps[i%len(ps)]
		idle(t, l, m, 7, p)
		idleThreads(t, l, m, threads)
		before := m.Words()
		x := wake.NewWake(l, who)
		counts(t, l, m, x, who)
		getsP(t, l, m, x, who, p)
		goes(t, m, x, who, having(p), acts.Load(l.Word(layout.IdleM)), acts.Load(l.Word(layout.Threads)))
		goes(t, m, x, who, having(p), acts.Store(l.Word(layout.Needs), 1))
		words(t, l, m, 1, 1)
		goes(t, m, x, who, having(p), acts.Add(l.Word(layout.Spinning), less))
		words(t, l, m, 0, 1)
		goes(t, m, x, who, having(p),
			acts.Load(l.Word(layout.Mask)), acts.Store(l.Word(layout.Mask), 1<<p|1<<7), acts.Load(l.Word(layout.IdleP)), acts.Store(l.Proc(p, layout.PLink), 8))
		goes(t, m, x, who, nothing(), acts.Store(l.Word(layout.IdleP), uint64(p)+1), acts.Add(l.Word(layout.IdlePs), 1), acts.Store(l.Owner(0), 0))
		ends(t, m, x, who, nothing(), acts.Add(l.Serving(0), 1))
		acts.Changed(t, m, before, locked(l, map[int]uint64{l.Word(layout.Needs): 1}))
		if got, right := idlep.List(l, m); !right || !slices.Equal(got, []int{p, 7}) {
			t.Errorf("List: %v, %v", got, right)
		}
	}
}

// Promise 19.1: a Wake counts as long as it waits for the lock; what comes on the lists meanwhile is got.
func TestWakeWaits(t *testing.T) {
	l, m := lay(t)
	release := hasLock(t, l, m)
	x := wake.NewWake(l, 4)
	goes(t, m, x, 4, nothing(), acts.Load(l.Word(layout.Spinning)))
	goes(t, m, x, 4, counting(), acts.Swap(l.Word(layout.Spinning), 0, 1), acts.Add(l.Ticket(0), 1))
	for range 20 {
		goes(t, m, x, 4, counting(), acts.Load(l.Serving(0)))
	}
	idle(t, l, m, 2)
	idleThreads(t, l, m, 9, 5)
	acts.All(t, m, release)
	goes(t, m, x, 4, counting(), acts.Load(l.Serving(0)), acts.Store(l.Owner(0), 5))
	getsP(t, l, m, x, 4, 2)
	acts.All(t, m, x)
	if w, _ := m.Peek(l.Thread(5, layout.Given)); w != given(2, true) {
		t.Errorf("given: %x", w)
	}
}

// Promise 19.1: a Wake counts itself out of what Spinning is then, though others counted meanwhile.
func TestWakeOthersCount(t *testing.T) {
	l, m := lay(t)
	x := wake.NewWake(l, 0)
	counts(t, l, m, x, 0)
	goes(t, m, x, 0, counting(), acts.Load(l.Word(layout.IdleP)), acts.Store(l.Word(layout.Needs), 1))
	m.Store(99, l.Word(layout.Needs), 0)
	m.Store(99, l.Word(layout.Spinning), 6)
	goes(t, m, x, 0, nothing(), acts.Add(l.Word(layout.Spinning), less))
	words(t, l, m, 5, 0)
}

// Promise 19.1: an IdleP that is no processor, and not 0, is got, and given, as its number says.
func TestWakeNoSuchProcessor(t *testing.T) {
	for _, w := range wrong {
		l, m := lay(t)
		m.Store(99, l.Word(layout.IdleP), w)
		idleThreads(t, l, m, 0)
		x := wake.NewWake(l, 1)
		p := int(w - 1)
		counts(t, l, m, x, 1)
		goes(t, m, x, 1, counting(), acts.Load(l.Word(layout.IdleP)), acts.Load(api.None), acts.Load(l.Word(layout.Mask)), acts.Store(l.Word(layout.Mask), 0))
		goes(t, m, x, 1, countingWith(p), acts.Store(l.Word(layout.IdleP), 0))
		goes(t, m, x, 1, having(p), acts.Add(l.Word(layout.IdlePs), less))
		acts.All(t, m, x)
		if got, _ := m.Peek(l.Thread(0, layout.Given)); got != w+round {
			t.Errorf("%x is given as %x", w, got)
		}
	}
}
