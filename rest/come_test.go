package rest_test

import (
	"math"
	"slices"
	"testing"

	"turnspit/acts"
	"turnspit/api"
	"turnspit/cell"
	"turnspit/idlem"
	"turnspit/idlep"
	"turnspit/layout"
	"turnspit/lock"
	"turnspit/rest"
)

// looks does the steps of a Rest until it has the lock, and knows whether somebody is needed.
func looks(t *testing.T, l *layout.Layout, m *cell.Mem, x acts.Machine, one int) {
	t.Helper()
	tells(t, m, x, nothing())
	goes(t, m, x, one, nothing(), acts.Add(l.Ticket(0), 1), acts.Load(l.Serving(0)), acts.Store(l.Owner(0), uint64(one)+1), acts.Load(l.Word(layout.Needs)))
}

// lies does the steps by which the thread comes on the list, and the lock is given back; first was the first one there.
func lies(t *testing.T, l *layout.Layout, m *cell.Mem, x acts.Machine, one int, first uint64) {
	t.Helper()
	goes(t, m, x, one, nothing(),
		acts.Load(l.Word(layout.IdleM)), acts.Store(l.Thread(one, layout.MLink), first), acts.Store(l.Word(layout.IdleM), uint64(one)+1), acts.Add(l.Word(layout.IdleMs), 1),
		acts.Store(l.Owner(0), 0), acts.Add(l.Serving(0), 1))
}

// locked are the lock's words, when it was had once, and given back, and what else is named.
func locked(l *layout.Layout, want map[int]uint64) map[int]uint64 {
	want[l.Ticket(0)], want[l.Serving(0)], want[l.Owner(0)] = 0, 0, 0
	return want
}

// Promises 20.1 and 20.2: a Rest where nobody is needed lies on the list, and naps, access by access, though a processor lies on its list; then it has what it is given.
func TestRestNobodyNeeded(t *testing.T) {
	for i, one := range ts {
		for _, spins := range []bool{false, true} {
			l, m := lay(t)
			idle(t, l, m, 7)
			idleThreads(t, l, m, 9)
			m.Store(99, l.Word(layout.Needs), 0)
			m.Store(99, l.Word(layout.Spinning), 4)
			before := m.Words()
			x := rest.NewRest(l, one)
			looks(t, l, m, x, one)
			lies(t, l, m, x, one, 10)
			goes(t, m, x, one, seen{p: api.None, asleep: true}, acts.Load(l.Thread(one, layout.Note)))
			sleeps(t, m, x)
			want := locked(l, map[int]uint64{l.Thread(one, layout.MLink): 10, l.Word(layout.IdleM): uint64(one) + 1, l.Word(layout.IdleMs): 2})
			acts.Changed(t, m, before, want)
			gives(l, m, one, word(ps[i], spins))
			tells(t, m, x, nothing())
			naps(t, l, m, x, one, ps[i], spins)
			want[l.Proc(ps[i], layout.Status)] = api.PRunning
			acts.Changed(t, m, before, want) // that it is told to spin is counted by who woke it
			if m.Bad() != 0 {
				t.Errorf("bad: %d", m.Bad())
			}
		}
	}
}

// Promise 20.1: a Rest that was woken ahead of its Nap does not sleep: what it was given is not lost.
func TestRestWokenAhead(t *testing.T) {
	l, m := lay(t)
	m.Store(99, l.Word(layout.Needs), 0)
	x := rest.NewRest(l, 5)
	looks(t, l, m, x, 5)
	lies(t, l, m, x, 5, 0)
	gives(l, m, 5, word(2, true))
	naps(t, l, m, x, 5, 2, true)
}

// Promises 20.1 and 20.2: a Rest where somebody is needed, and a processor lies on the list, has that one, and spins, access by access, and does not sleep.
func TestRestNeeded(t *testing.T) {
	for i, one := range ts {
		for _, needs := range []uint64{1, 2, 1 << 32, math.MaxUint64} {
			l, m := lay(t)
			p := ps[i]
			idle(t, l, m, 7, p)
			m.Store(99, l.Word(layout.Needs), needs)
			m.Store(99, l.Word(layout.Spinning), less)
			before := m.Words()
			x := rest.NewRest(l, one)
			looks(t, l, m, x, one)
			goes(t, m, x, one, nothing(),
				acts.Load(l.Word(layout.IdleP)), acts.Load(l.Proc(p, layout.PLink)), acts.Load(l.Word(layout.Mask)), acts.Store(l.Word(layout.Mask), 1<<7))
			goes(t, m, x, one, seen{p: p}, acts.Store(l.Word(layout.IdleP), 8), acts.Add(l.Word(layout.IdlePs), less))
			has := seen{p: p, counts: true}
			goes(t, m, x, one, has, acts.Add(l.Word(layout.Spinning), 1), acts.Store(l.Word(layout.Needs), 0))
			goes(t, m, x, one, has, acts.Store(l.Owner(0), 0), acts.Add(l.Serving(0), 1))
			ends(t, m, x, one, has, acts.Store(l.Proc(p, layout.Status), api.PRunning))
			acts.Changed(t, m, before, locked(l, map[int]uint64{
				l.Word(layout.IdleP): 8, l.Word(layout.IdlePs): 1, l.Word(layout.Mask): 1 << 7,
				l.Word(layout.Spinning): 0, l.Word(layout.Needs): 0, l.Proc(p, layout.Status): api.PRunning,
			}))
			if m.Bad() != 0 {
				t.Errorf("bad: %d", m.Bad())
			}
		}
	}
}

// Promises 20.1 and 20.2: a Rest where somebody is needed, and no processor lies on the list, sleeps; Needs stays as it is.
func TestRestNeededNone(t *testing.T) {
	for i, one := range ts {
		l, m := lay(t)
		m.Store(99, l.Word(layout.Needs), 3)
		m.Store(99, l.Word(layout.IdlePs), 2) // IdleP alone tells whether there is one
		m.Store(99, l.Word(layout.Mask), 5)
		before := m.Words()
		x := rest.NewRest(l, one)
		looks(t, l, m, x, one)
		goes(t, m, x, one, nothing(), acts.Load(l.Word(layout.IdleP)))
		lies(t, l, m, x, one, 0)
		goes(t, m, x, one, seen{p: api.None, asleep: true}, acts.Load(l.Thread(one, layout.Note)))
		sleeps(t, m, x)
		acts.Changed(t, m, before, locked(l, map[int]uint64{l.Thread(one, layout.MLink): 0, l.Word(layout.IdleM): uint64(one) + 1, l.Word(layout.IdleMs): 1}))
		gives(l, m, one, word(ps[i], false))
		naps(t, l, m, x, one, ps[i], false)
	}
}

// Promise 20.1: an IdleP that is no processor, and not 0, is got as its number says.
func TestRestNoSuchProcessor(t *testing.T) {
	for _, w := range []uint64{procs + 1, 1 << 32, 1 << 63, math.MaxUint64} {
		l, m := lay(t)
		m.Store(99, l.Word(layout.IdleP), w)
		x := rest.NewRest(l, 1)
		looks(t, l, m, x, 1)
		acts.All(t, m, x)
		tells(t, m, x, seen{p: int(w - 1), counts: true})
		if m.Bad() != 2 { // its Link, and its Status
			t.Errorf("bad: %d", m.Bad())
		}
	}
}

// Promise 20.1: a thread that there is not lies on the list as its number says, and sleeps for ever; where one is needed, it has a processor.
func TestRestNoSuchThread(t *testing.T) {
	for _, one := range append(nones, threads) {
		l, m := lay(t)
		m.Store(99, l.Word(layout.Needs), 0)
		x := rest.NewRest(l, one)
		looks(t, l, m, x, one)
		lies(t, l, m, x, one, 0)
		goes(t, m, x, one, seen{p: api.None, asleep: true}, acts.Load(api.None))
		sleeps(t, m, x)
		m.Store(99, l.Word(layout.Needs), 1)
		idle(t, l, m, 6)
		y := rest.NewRest(l, one)
		acts.All(t, m, y)
		tells(t, m, y, seen{p: 6, counts: true})
	}
}

// Promises 20.1 and 20.3: a Rest that waits for the lock goes by what is there when it has it.
func TestRestWaits(t *testing.T) {
	l, m := lay(t)
	m.Store(99, l.Word(layout.Needs), 0)
	acts.All(t, m, lock.New(l, 0, 50))
	x := rest.NewRest(l, 4)
	goes(t, m, x, 4, nothing(), acts.Add(l.Ticket(0), 1))
	for range 20 {
		goes(t, m, x, 4, nothing(), acts.Load(l.Serving(0)))
	}
	idle(t, l, m, 2)
	m.Store(99, l.Word(layout.Needs), 1)
	acts.All(t, m, lock.NewRelease(l, 0, 50))
	goes(t, m, x, 4, nothing(), acts.Load(l.Serving(0)), acts.Store(l.Owner(0), 5), acts.Load(l.Word(layout.Needs)))
	acts.All(t, m, x)
	tells(t, m, x, seen{p: 2, counts: true})
}

// Promise 20.1: what others store between two steps of a Rest: Needs is looked at once.
func TestRestOthersBetween(t *testing.T) {
	l, m := lay(t)
	idle(t, l, m, 2)
	m.Store(99, l.Word(layout.Needs), 0)
	x := rest.NewRest(l, 4)
	looks(t, l, m, x, 4)
	m.Store(99, l.Word(layout.Needs), 1)
	lies(t, l, m, x, 4, 0)

	l, m = lay(t)
	idle(t, l, m, 2)
	x = rest.NewRest(l, 4)
	looks(t, l, m, x, 4)
	m.Store(99, l.Word(layout.Needs), 0)
	goes(t, m, x, 4, nothing(), acts.Load(l.Word(layout.IdleP)))
	m.Store(99, l.Proc(2, layout.PLink), 9) // what lies behind it is as it is then
	goes(t, m, x, 4, nothing(), acts.Load(l.Proc(2, layout.PLink)), acts.Load(l.Word(layout.Mask)), acts.Store(l.Word(layout.Mask), 0))
	goes(t, m, x, 4, seen{p: 2}, acts.Store(l.Word(layout.IdleP), 9), acts.Add(l.Word(layout.IdlePs), less))
	m.Store(99, l.Word(layout.Spinning), 9)
	m.Store(99, l.Word(layout.Needs), 9)
	goes(t, m, x, 4, seen{p: 2, counts: true}, acts.Add(l.Word(layout.Spinning), 1), acts.Store(l.Word(layout.Needs), 0))
	if w, _ := m.Peek(l.Word(layout.Spinning)); w != 10 {
		t.Errorf("Spinning: %d", w)
	}
}

// rester is a thread that comes to rest, and what it saw when it had the lock.
type rester struct {
	t    int
	come *rest.Rest
	stay bool // somebody was needed, and a processor lay on the list, when it had the lock: it is not to sleep
}

// step does a step: whether the thread sleeps, and whether it did not, as it was not to.
func (x *rester) step(t *testing.T, l *layout.Layout, m *cell.Mem) (slept, stayed bool) {
	x.come.Step(m)
	if a := m.Last(); a.Who == x.t && a.At == l.Owner(0) && a.New == uint64(x.t)+1 {
		needs, _ := m.Peek(l.Word(layout.Needs))
		list, _ := idlep.List(l, m)
		x.stay = needs != 0 && len(list) > 0
	}
	slept = x.come.Asleep(m)
	if slept && x.stay {
		t.Errorf("%d sleeps, though somebody was needed, and a processor lay there", x.t)
	}
	return slept, x.stay && x.come.Done()
}

// Promise 20.3: however threads that rest go on between one another, and between who puts processors, and says that one is needed, with the lock: where somebody is needed, and a processor lies on the list, when a thread has the lock, it has one, and does not sleep; each processor is in one place.
func TestNeededDoesNotSleep(t *testing.T) {
	const many = 6
	slept, stayed := 0, 0
	for seed := range uint64(300) {
		l, m := acts.Lay(t, api.Config{Procs: many, Threads: many, Gs: 1})
		var all []*rester
		for one := range many {
			all = append(all, &rester{t: one, come: rest.NewRest(l, one)})
		}
		roll, put := seed, 0
		var other []acts.Machine // what is done from without
		for range 400 {
			roll = roll*6364136223846793005 + 1442695040888963407
			which := roll >> 33 % (many + 2)
			switch {
			case which < many:
				a, b := all[which].step(t, l, m)
				if a {
					slept++
				}
				if b {
					stayed++
				}
			case len(other) > 0:
				if other[0].Step(m) {
					other = other[1:]
				}
			case put < many:
				other = []acts.Machine{lock.New(l, 0, 50), idlep.New(l, 50, put), lock.NewRelease(l, 0, 50)}
				put++
			default:
				m.Store(50, l.Word(layout.Needs), 1)
			}
			if roll>>50%8 == 0 {
				m.Store(50, l.Word(layout.Needs), 1)
			}
		}
		onePlace(t, l, m, all, put, len(other) > 0)
		if t.Failed() {
			t.Fatalf("seed %d", seed)
		}
	}
	if slept < 1000 || stayed < 100 {
		t.Errorf("%d steps asleep, %d did not sleep", slept, stayed)
	}
}

// onePlace holds all processors that were put against those on the list and in hands, and Spinning against who counts.
func onePlace(t *testing.T, l *layout.Layout, m *cell.Mem, all []*rester, put int, busy bool) {
	t.Helper()
	places, right := idlep.List(l, m)
	count := uint64(0)
	for _, x := range all {
		if p := x.come.P(); p != api.None {
			places = append(places, p)
		}
		if x.come.Spins() {
			count++
		}
	}
	slices.Sort(places)
	if len(slices.Compact(slices.Clone(places))) != len(places) || !right || len(places) < put-1 || !busy && len(places) != put {
		t.Errorf("%d were put, there are %v", put, places)
	}
	if w, _ := m.Peek(l.Word(layout.Spinning)); w != count || m.Bad() != 0 {
		t.Errorf("Spinning %d, %d count; bad %d", w, count, m.Bad())
	}
	if list, right := idlem.List(l, m); !right || len(list) > len(all) {
		t.Errorf("threads on the list: %v", list)
	}
}

// Promise 20.2: what a Rest tells is as told by the memory that it is asked with: asleep only where its note is 0.
func TestRestAsleepOf(t *testing.T) {
	l, m := lay(t)
	m.Store(99, l.Word(layout.Needs), 0)
	x := rest.NewRest(l, 3)
	for range 30 {
		x.Step(m)
	}
	other, _ := cell.Of(m.Words())
	other.Store(0, l.Thread(3, layout.Note), 1)
	if !x.Asleep(m) || x.Asleep(other) {
		t.Errorf("asleep: %v, %v", x.Asleep(m), x.Asleep(other))
	}
}
