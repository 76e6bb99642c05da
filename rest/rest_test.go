package rest_test

import (
	"math"
	"testing"

	"turnspit/acts"
	"turnspit/api"
	"turnspit/cell"
	"turnspit/idlem"
	"turnspit/idlep"
	"turnspit/layout"
	"turnspit/rest"
)

const (
	procs   = api.MaxProcs
	threads = 80 // how many the config has
	round   = 1 << 32
	less    = round - 1
)

// ts are threads at both ends, and between; nones are neither threads nor processors.
var (
	ts    = []int{0, 1, 40, threads - 1}
	ps    = []int{0, 1, 31, procs - 1}
	nones = []int{math.MinInt, -2, -1, api.MaxThreads, 1 << 32, math.MaxInt}
)

// lay is a layout, and its memory, whose words are stale, but those that tell of idle ones, of Spinning, and of notes: these are 0; the turn at the lock goes round.
func lay(t *testing.T) (*layout.Layout, *cell.Mem) {
	t.Helper()
	l, m := acts.Lay(t, api.Config{Procs: procs, Threads: threads, Gs: 1})
	for at := range l.Len() {
		m.Store(99, at, 7)
	}
	for _, w := range []int{layout.IdleP, layout.IdlePs, layout.IdleM, layout.IdleMs, layout.Spinning, layout.Mask} {
		m.Store(99, l.Word(w), 0)
	}
	for one := range threads {
		m.Store(99, l.Thread(one, layout.Note), 0)
		m.Store(99, l.Thread(one, layout.Given), 0)
	}
	m.Store(99, l.Ticket(0), round-1)
	m.Store(99, l.Serving(0), round-1)
	return l, m
}

// resting is what a Nap and a Rest have.
type resting interface {
	acts.Machine
	Asleep(m *cell.Mem) bool
	P() int
	Spins() bool
}

// seen is what a machine tells: the processor in its hand, whether it counts in Spinning, whether it is asleep.
type seen struct {
	p              int
	counts, asleep bool
}

// nothing is what a machine tells that has nothing, and is awake.
func nothing() seen { return seen{p: api.None} }

// tells holds what a machine tells against what it should.
func tells(t *testing.T, m *cell.Mem, x acts.Machine, want seen) {
	t.Helper()
	for range 2 {
		got := nothing()
		switch x := x.(type) {
		case *rest.Spin:
			got.counts = x.Counts()
		case resting:
			got = seen{x.P(), x.Spins(), x.Asleep(m)}
		}
		if got != want {
			t.Errorf("told %v, want %v", got, want)
		}
	}
}

// goes does steps that are to do these accesses, none of which ends it, and to tell this from each on.
func goes(t *testing.T, m *cell.Mem, x acts.Machine, who int, want seen, list ...acts.Act) {
	t.Helper()
	for i, a := range list {
		acts.Step(t, m, x, who, a, false)
		tells(t, m, x, want)
		if t.Failed() {
			t.Fatalf("step %d of %d", i, len(list))
		}
	}
}

// ends does the last step; those behind it do nothing.
func ends(t *testing.T, m *cell.Mem, x acts.Machine, who int, want seen, a acts.Act) {
	t.Helper()
	acts.Step(t, m, x, who, a, true)
	tells(t, m, x, want)
	acts.Rests(t, m, x)
	tells(t, m, x, want)
}

// sleeps does steps of a machine that is asleep, which are to do nothing.
func sleeps(t *testing.T, m *cell.Mem, x acts.Machine) {
	t.Helper()
	clock := m.Clock()
	for range 5 {
		tells(t, m, x, seen{p: api.None, asleep: true})
		if x.Step(m) || x.Done() || m.Clock() != clock {
			t.Errorf("a step of what is asleep: Done %v, %d accesses", x.Done(), m.Clock()-clock)
		}
	}
}

// word is a processor as a word that is given.
func word(p int, spins bool) uint64 {
	if spins {
		return uint64(p) + 1 + round
	}
	return uint64(p) + 1
}

// naps does the steps of a thread that is woken, with p given, from the load of its note on; the last one ends it.
func naps(t *testing.T, l *layout.Layout, m *cell.Mem, x acts.Machine, one, p int, spins bool) {
	t.Helper()
	goes(t, m, x, one, nothing(), acts.Load(l.Thread(one, layout.Note)), acts.Store(l.Thread(one, layout.Note), 0), acts.Load(l.Thread(one, layout.Given)))
	goes(t, m, x, one, seen{p: p, counts: spins}, acts.Store(l.Thread(one, layout.Given), 0))
	ends(t, m, x, one, seen{p: p, counts: spins}, acts.Store(l.Proc(p, layout.Status), api.PRunning))
}

// gives gives a thread a word, and wakes it.
func gives(l *layout.Layout, m *cell.Mem, one int, w uint64) {
	m.Store(99, l.Thread(one, layout.Given), w)
	m.Store(99, l.Thread(one, layout.Note), 1)
}

// Promises 20.1 and 20.2: a Nap that was woken ahead takes what it is given, access by access, with a processor that spins, and one that does not.
func TestNapWoken(t *testing.T) {
	for _, one := range ts {
		for _, p := range ps {
			for _, spins := range []bool{false, true} {
				for _, w := range []uint64{1, 2, 1 << 63} {
					l, m := lay(t)
					m.Store(99, l.Thread(one, layout.Given), word(p, spins))
					m.Store(99, l.Thread(one, layout.Note), w)
					before := m.Words()
					x := rest.New(l, one)
					tells(t, m, x, nothing())
					naps(t, l, m, x, one, p, spins)
					acts.Changed(t, m, before, map[int]uint64{l.Thread(one, layout.Note): 0, l.Thread(one, layout.Given): 0, l.Proc(p, layout.Status): api.PRunning})
					if m.Bad() != 0 {
						t.Errorf("bad: %d", m.Bad())
					}
				}
			}
		}
	}
}

// Promises 20.1 and 20.2: a Nap sleeps until it is woken; what is given ahead of that does not wake it.
func TestNapSleeps(t *testing.T) {
	for i, one := range ts {
		for _, spins := range []bool{false, true} {
			l, m := lay(t)
			p := ps[i]
			x := rest.New(l, one)
			tells(t, m, x, nothing())
			goes(t, m, x, one, seen{p: api.None, asleep: true}, acts.Load(l.Thread(one, layout.Note)))
			sleeps(t, m, x)
			m.Store(99, l.Thread(one, layout.Given), word(p, spins))
			m.Store(99, l.Thread((one+1)%threads, layout.Note), 1)
			sleeps(t, m, x)
			m.Store(99, l.Thread(one, layout.Note), 1)
			tells(t, m, x, nothing())
			naps(t, l, m, x, one, p, spins)
		}
	}
}

// Promise 20.1: a Nap that is woken, and whose note is 0 again ahead of its step, sleeps on.
func TestNapSleepsOn(t *testing.T) {
	l, m := lay(t)
	x := rest.New(l, 3)
	x.Step(m)
	gives(l, m, 3, word(9, true))
	tells(t, m, x, nothing())
	m.Store(99, l.Thread(3, layout.Note), 0)
	sleeps(t, m, x)
	gives(l, m, 3, word(8, false))
	naps(t, l, m, x, 3, 8, false)
}

// Promises 20.1 and 20.2: words that give no processor that there is: of none None, else as the number says; its Status is at no place.
func TestNapGivenNone(t *testing.T) {
	for _, x := range []struct {
		w     uint64
		p     int
		spins bool
	}{
		{0, api.None, false}, {round, api.None, true}, {5 * round, api.None, true}, {procs + 1, procs, false}, {procs + 1 + round, procs, true},
		{less, round - 2, false}, {2*round - 1, round - 2, true}, {math.MaxUint64, round - 2, true},
	} {
		for _, one := range ts {
			l, m := lay(t)
			gives(l, m, one, x.w)
			before := m.Words()
			y := rest.New(l, one)
			goes(t, m, y, one, nothing(), acts.Load(l.Thread(one, layout.Note)), acts.Store(l.Thread(one, layout.Note), 0), acts.Load(l.Thread(one, layout.Given)))
			goes(t, m, y, one, seen{p: x.p, counts: x.spins}, acts.Store(l.Thread(one, layout.Given), 0))
			ends(t, m, y, one, seen{p: x.p, counts: x.spins}, acts.Store(api.None, api.PRunning))
			acts.Changed(t, m, before, map[int]uint64{l.Thread(one, layout.Note): 0, l.Thread(one, layout.Given): 0})
		}
	}
}

// Promise 20.1: the upper bits of a word that is given tell only whether it spins.
func TestNapGivenMore(t *testing.T) {
	for _, w := range []uint64{2*round + 4, 5*round + 4, 1<<63 + 4} {
		l, m := lay(t)
		gives(l, m, 2, w)
		naps(t, l, m, rest.New(l, 2), 2, 3, true)
	}
}

// Promise 20.1: what others store between the steps of a Nap: what was loaded is what it has, and what was given behind that is lost.
func TestNapOthersBetween(t *testing.T) {
	l, m := lay(t)
	gives(l, m, 6, word(4, false))
	x := rest.New(l, 6)
	goes(t, m, x, 6, nothing(), acts.Load(l.Thread(6, layout.Note)))
	m.Store(99, l.Thread(6, layout.Note), 5)
	m.Store(99, l.Thread(6, layout.Given), word(8, true))
	goes(t, m, x, 6, nothing(), acts.Store(l.Thread(6, layout.Note), 0), acts.Load(l.Thread(6, layout.Given)))
	gives(l, m, 6, word(9, false))
	goes(t, m, x, 6, seen{p: 8, counts: true}, acts.Store(l.Thread(6, layout.Given), 0))
	gives(l, m, 6, word(10, false))
	ends(t, m, x, 6, seen{p: 8, counts: true}, acts.Store(l.Proc(8, layout.Status), api.PRunning))
	naps(t, l, m, rest.New(l, 6), 6, 10, false)
}

// Promise 20.1: a thread that there is not sleeps for ever, by one bad load.
func TestNapNoSuchThread(t *testing.T) {
	for _, one := range append(nones, threads) {
		l, m := lay(t)
		before := m.Words()
		x := rest.New(l, one)
		goes(t, m, x, one, seen{p: api.None, asleep: true}, acts.Load(api.None))
		sleeps(t, m, x)
		acts.Changed(t, m, before, nil)
	}
}

// Promises 20.1 and 20.2: a Spin counts one more, wherever Spinning is, and says that nobody is needed any more; it counts from its first step on.
func TestSpin(t *testing.T) {
	for _, one := range append(append(nones, threads), ts...) {
		for _, x := range []struct{ was, behind uint64 }{{0, 1}, {5, 6}, {less, 0}, {round, 1}, {math.MaxUint64, 0}} {
			for _, needs := range []uint64{0, 1, math.MaxUint64} {
				l, m := lay(t)
				m.Store(99, l.Word(layout.Spinning), x.was)
				m.Store(99, l.Word(layout.Needs), needs)
				before := m.Words()
				y := rest.NewSpin(l, one)
				tells(t, m, y, nothing())
				goes(t, m, y, one, seen{p: api.None, counts: true}, acts.Add(l.Word(layout.Spinning), 1))
				acts.Changed(t, m, before, map[int]uint64{l.Word(layout.Spinning): x.behind})
				ends(t, m, y, one, seen{p: api.None, counts: true}, acts.Store(l.Word(layout.Needs), 0))
				acts.Changed(t, m, before, map[int]uint64{l.Word(layout.Spinning): x.behind, l.Word(layout.Needs): 0})
			}
		}
	}
}

// R1 and promises 20.1, 20.2: no machine is done, and its steps do nothing; it has nothing.
func TestNoMachine(t *testing.T) {
	_, m := lay(t)
	var nap *rest.Nap
	var spin *rest.Spin
	var come *rest.Rest
	for _, x := range []acts.Machine{nap, spin, come, &rest.Nap{}, &rest.Spin{}, &rest.Rest{}} {
		tells(t, m, x, nothing())
		acts.Rests(t, m, x)
		tells(t, m, x, nothing())
	}
}

// Machines without a memory, or without a layout, do not panic.
func TestNoMemoryNoLayout(t *testing.T) {
	l, m := lay(t)
	for _, x := range []acts.Machine{rest.New(l, 1), rest.NewSpin(l, 1), rest.NewRest(l, 1)} {
		x.Step(nil)
		x.Done()
	}
	rest.New(l, 1).Asleep(nil)
	rest.NewRest(l, 1).Asleep(nil)
	before := m.Words()
	for _, x := range []acts.Machine{rest.New(nil, 1), rest.NewSpin(nil, 1), rest.NewRest(nil, 1)} {
		for range 30 {
			x.Step(m)
			x.Done()
		}
	}
	acts.Changed(t, m, before, nil)
}

// A memory that has no words does not let them panic: a Nap is asleep there, a Rest waits for its turn at the lock.
func TestNoWords(t *testing.T) {
	l, _ := lay(t)
	m, _ := cell.New(0)
	nap, come := rest.New(l, 1), rest.NewRest(l, 1)
	for range 30 {
		nap.Step(m)
		come.Step(m)
	}
	tells(t, m, nap, seen{p: api.None, asleep: true})
	tells(t, m, come, nothing())
	acts.All(t, m, rest.NewSpin(l, 1))
}

// idle lets processors lie on the list, one by one.
func idle(t *testing.T, l *layout.Layout, m *cell.Mem, ps ...int) {
	t.Helper()
	for _, p := range ps {
		acts.All(t, m, idlep.New(l, 99, p))
	}
}

// idleThreads lets threads lie on the list, one by one.
func idleThreads(t *testing.T, l *layout.Layout, m *cell.Mem, ts ...int) {
	t.Helper()
	for _, one := range ts {
		acts.All(t, m, idlem.New(l, 99, one))
	}
}
