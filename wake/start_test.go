package wake_test

import (
	"math"
	"slices"
	"testing"

	"turnspit/acts"
	"turnspit/api"
	"turnspit/cell"
	"turnspit/idlep"
	"turnspit/layout"
	"turnspit/note"
	"turnspit/wake"
)

// how is how a thread is started.
type how struct{ spins, left bool }

// hows are all ways.
var hows = []how{{false, false}, {false, true}, {true, false}, {true, true}}

// given is what is given, as a word.
func given(p int, spins bool) uint64 {
	if spins {
		return uint64(p) + 1 + round
	}
	return uint64(p) + 1
}

// gives does the steps of a machine that got a thread, from the lock's release on; now is what it tells until the thread is given p, then what it tells behind it.
func gives(t *testing.T, l *layout.Layout, m *cell.Mem, x machine, who, p, one int, spins bool, now, then seen) {
	t.Helper()
	goes(t, m, x, who, now, acts.Store(l.Owner(0), 0), acts.Add(l.Serving(0), 1))
	if note.Awake(l, m, one) && one >= 0 && one < threads {
		m.Store(99, l.Thread(one, layout.Note), 0)
	}
	goes(t, m, x, who, then, acts.Store(l.Thread(one, layout.Given), given(p, spins)))
	if note.Awake(l, m, one) {
		t.Errorf("awake ahead of the wake")
	}
	ends(t, m, x, who, then, acts.Store(l.Thread(one, layout.Note), 1))
}

// Promise 19.1: a Start that gets a thread off the list, spinning or not, of a processor that was idle, and of one that was left, access by access; Needs, Spinning, the list of processors and Status are left as they are.
func TestStart(t *testing.T) {
	for i, who := range whos {
		for j, p := range ps {
			for _, h := range hows {
				l, m := lay(t)
				one := []int{0, 5, threads - 1}[(i+j)%3]
				idleThreads(t, l, m, 9, 3, one)
				idle(t, l, m, 7)
				before := m.Words()
				x := wake.New(l, who, p, h.spins, h.left)
				none, got, gave := seen{p, api.None, false}, seen{p, one, false}, seen{api.None, one, false}
				tells(t, x, none)
				goes(t, m, x, who, none, acts.Load(l.Word(layout.IdleM)), acts.Load(l.Thread(one, layout.MLink)))
				goes(t, m, x, who, got, acts.Store(l.Word(layout.IdleM), 4), acts.Add(l.Word(layout.IdleMs), less))
				gives(t, l, m, x, who, p, one, h.spins, got, gave)
				acts.Changed(t, m, before, map[int]uint64{
					l.Word(layout.IdleM): 4, l.Word(layout.IdleMs): 1, l.Owner(0): 0, l.Serving(0): 0,
					l.Thread(one, layout.Given): given(p, h.spins), l.Thread(one, layout.Note): 1,
				})
				if m.Bad() != 0 {
					t.Errorf("bad: %d", m.Bad())
				}
			}
		}
	}
}

// Promise 19.1: a Start that gets a new thread, access by access: it is got from the step on that stores Threads.
func TestStartNew(t *testing.T) {
	for i, who := range whos {
		for _, h := range hows {
			l, m := lay(t)
			p, one := ps[i%len(ps)], []int{0, 1, threads - 1}[i%3]
			idleThreads(t, l, m, uint64(one))
			before := m.Words()
			x := wake.New(l, who, p, h.spins, h.left)
			none, got, gave := seen{p, api.None, false}, seen{p, one, false}, seen{api.None, one, false}
			goes(t, m, x, who, none, acts.Load(l.Word(layout.IdleM)), acts.Load(l.Word(layout.Threads)))
			goes(t, m, x, who, got, acts.Store(l.Word(layout.Threads), uint64(one)+1))
			gives(t, l, m, x, who, p, one, h.spins, got, gave)
			acts.Changed(t, m, before, map[int]uint64{
				l.Word(layout.Threads): uint64(one) + 1, l.Owner(0): 0, l.Serving(0): 0,
				l.Thread(one, layout.Given): given(p, h.spins), l.Thread(one, layout.Note): 1,
			})
		}
	}
}

// full lets all threads be had, and none lie on the list; two count in Spinning, and nobody is needed.
func full(l *layout.Layout, m *cell.Mem) {
	m.Store(99, l.Word(layout.Threads), threads)
	m.Store(99, l.Word(layout.Spinning), 2)
	m.Store(99, l.Word(layout.Needs), 0)
}

// lacks does the steps of a Start that gets no thread, until it was counted out.
func lacks(t *testing.T, l *layout.Layout, m *cell.Mem, x machine, who int, spins bool, want seen) {
	t.Helper()
	goes(t, m, x, who, want, acts.Load(l.Word(layout.IdleM)), acts.Load(l.Word(layout.Threads)))
	words(t, l, m, 2, 0)
	goes(t, m, x, who, want, acts.Store(l.Word(layout.Needs), 1))
	words(t, l, m, 2, 1)
	if spins {
		goes(t, m, x, who, want, acts.Add(l.Word(layout.Spinning), less))
		words(t, l, m, 1, 1)
	}
}

// Promise 19.1: a Start that gets no thread lets a processor that was idle lie on the list, spinning or not, access by access.
func TestStartNoneIdle(t *testing.T) {
	for i, who := range whos {
		for _, lie := range [][]int{nil, {7}, {9, 7}} {
			for _, spins := range []bool{false, true} {
				l, m := lay(t)
				p := ps[i%len(ps)]
				idle(t, l, m, lie...)
				full(l, m)
				before := m.Words()
				mask, first, many := word(l, m, layout.Mask), word(l, m, layout.IdleP), uint64(len(lie))
				x := wake.New(l, who, p, spins, false)
				has, lies := seen{p, api.None, false}, seen{api.None, api.None, false}
				lacks(t, l, m, x, who, spins, has)
				goes(t, m, x, who, has,
					acts.Load(l.Word(layout.Mask)), acts.Store(l.Word(layout.Mask), mask|1<<p), acts.Load(l.Word(layout.IdleP)), acts.Store(l.Proc(p, layout.PLink), first))
				goes(t, m, x, who, lies, acts.Store(l.Word(layout.IdleP), uint64(p)+1), acts.Add(l.Word(layout.IdlePs), 1), acts.Store(l.Owner(0), 0))
				ends(t, m, x, who, lies, acts.Add(l.Serving(0), 1))
				want := map[int]uint64{
					l.Word(layout.Mask): mask | 1<<p, l.Word(layout.IdleP): uint64(p) + 1, l.Word(layout.IdlePs): many + 1, l.Proc(p, layout.PLink): first,
					l.Word(layout.Needs): 1, l.Owner(0): 0, l.Serving(0): 0,
				}
				if spins {
					want[l.Word(layout.Spinning)] = 1
				}
				acts.Changed(t, m, before, want)
				pile := append(slices.Clone(lie), p)
				slices.Reverse(pile)
				if got, right := idlep.List(l, m); !right || !slices.Equal(got, pile) {
					t.Errorf("List: %v, %v", got, right)
				}
			}
		}
	}
}

// Promise 19.1: a Start that gets no thread leaves a processor that was left as it was, spinning or not, access by access: it does not lie on the list.
func TestStartNoneLeft(t *testing.T) {
	for i, who := range whos {
		for _, spins := range []bool{false, true} {
			l, m := lay(t)
			p := ps[i%len(ps)]
			idle(t, l, m, 7)
			full(l, m)
			m.Store(99, l.Proc(p, layout.Status), api.PIdle)
			before := m.Words()
			x := wake.New(l, who, p, spins, true)
			has, left := seen{p, api.None, false}, seen{api.None, api.None, false}
			lacks(t, l, m, x, who, spins, has)
			goes(t, m, x, who, left, acts.Store(l.Proc(p, layout.Status), api.PSyscall), acts.Store(l.Owner(0), 0))
			ends(t, m, x, who, left, acts.Add(l.Serving(0), 1))
			want := map[int]uint64{l.Word(layout.Needs): 1, l.Proc(p, layout.Status): api.PSyscall, l.Owner(0): 0, l.Serving(0): 0}
			if spins {
				want[l.Word(layout.Spinning)] = 1
			}
			acts.Changed(t, m, before, want)
			if m.Bad() != 0 {
				t.Errorf("bad: %d", m.Bad())
			}
		}
	}
}

// Promise 19.1: Spinning goes round at 2^32, where a Start that gets no thread counts it out.
func TestStartCountsOutOf(t *testing.T) {
	for _, x := range []struct{ was, behind uint64 }{{1, 0}, {0, less}, {round - 1, round - 2}, {round, less}, {round + 5, 4}} {
		for _, left := range []bool{false, true} {
			l, m := lay(t)
			full(l, m)
			m.Store(99, l.Word(layout.Spinning), x.was)
			acts.All(t, m, wake.New(l, 0, 3, true, left))
			words(t, l, m, x.behind, 1)
			m.Store(99, l.Word(layout.Spinning), x.was)
			acts.All(t, m, wake.New(l, 0, 3, false, left))
			words(t, l, m, x.was, 1)
		}
	}
}

// Promise 19.1: what others store between two steps is what is there behind them: a thread that comes on the list behind the load of IdleM is not seen; what is given already is replaced.
func TestStartOthersBetween(t *testing.T) {
	l, m := lay(t)
	full(l, m)
	x := wake.New(l, 0, 3, true, true)
	x.Step(m)
	m.Store(99, l.Word(layout.IdleM), 5)
	goes(t, m, x, 0, seen{3, api.None, false}, acts.Load(l.Word(layout.Threads)), acts.Store(l.Word(layout.Needs), 1))
	m.Store(99, l.Word(layout.Needs), 0)
	m.Store(99, l.Word(layout.Spinning), 40)
	goes(t, m, x, 0, seen{3, api.None, false}, acts.Add(l.Word(layout.Spinning), less))
	words(t, l, m, 39, 0)

	l, m = lay(t)
	x = wake.New(l, 0, 3, true, false)
	m.Store(99, l.Word(layout.IdleM), 5)
	x.Step(m)
	m.Store(99, l.Word(layout.IdleM), 6)
	m.Store(99, l.Thread(4, layout.MLink), 11)
	goes(t, m, x, 0, seen{3, api.None, false}, acts.Load(l.Thread(4, layout.MLink)))
	goes(t, m, x, 0, seen{3, 4, false}, acts.Store(l.Word(layout.IdleM), 11), acts.Add(l.Word(layout.IdleMs), less))
	m.Store(99, l.Thread(4, layout.Given), 9)
	gives(t, l, m, x, 0, 3, 4, true, seen{3, 4, false}, seen{api.None, 4, false})
}

// Promise 19.1: a processor that there is not is given as its number says; where there is no thread, its Link, or its Status, is at no place.
func TestStartNoSuchProcessor(t *testing.T) {
	for _, p := range nones {
		for _, h := range hows {
			l, m := lay(t)
			idleThreads(t, l, m, 2)
			x := wake.New(l, 1, p, h.spins, h.left)
			tells(t, x, seen{p, api.None, false})
			acts.All(t, m, x)
			tells(t, x, seen{api.None, 2, false})
			if w, _ := m.Peek(l.Thread(2, layout.Given)); w != given(p, h.spins) || m.Bad() != 0 {
				t.Errorf("%d is given as %x, bad %d", p, w, m.Bad())
			}
			full(l, m)
			x = wake.New(l, 1, p, h.spins, h.left)
			tells(t, x, seen{p, api.None, false})
			acts.All(t, m, x)
			tells(t, x, seen{api.None, api.None, false})
			if m.Bad() != 1 {
				t.Errorf("%d is put back: bad %d", p, m.Bad())
			}
		}
	}
}

// Promise 19.1: an IdleM that is no thread, and not 0, is got as it is; its words are at no place.
func TestStartNoSuchThread(t *testing.T) {
	for _, w := range wrong {
		l, m := lay(t)
		m.Store(99, l.Word(layout.IdleM), w)
		one := int(w - 1)
		x := wake.New(l, 1, 6, true, false)
		none, got, gave := seen{6, api.None, false}, seen{6, one, false}, seen{api.None, one, false}
		goes(t, m, x, 1, none, acts.Load(l.Word(layout.IdleM)), acts.Load(api.None))
		goes(t, m, x, 1, got, acts.Store(l.Word(layout.IdleM), 0), acts.Add(l.Word(layout.IdleMs), less))
		gives(t, l, m, x, 1, 6, one, true, got, gave)
		if m.Bad() != 3 {
			t.Errorf("bad: %d", m.Bad())
		}
	}
}

// Promise 19.1: of as many threads as there may be each is started once, with a processor of its own; then there is none, and somebody is needed.
func TestStartAll(t *testing.T) {
	l, m := acts.Lay(t, api.Config{Procs: procs, Threads: api.MaxThreads, Gs: 1})
	for one := range api.MaxThreads {
		x := wake.New(l, 0, one%procs, one%2 == 0, false)
		acts.All(t, m, x)
		tells(t, x, seen{api.None, one, false})
	}
	words(t, l, m, 0, 0)
	acts.All(t, m, wake.New(l, 0, 5, false, false))
	words(t, l, m, 0, 1)
	for one := range api.MaxThreads {
		w, _ := m.Peek(l.Thread(one, layout.Given))
		if p, spins := wake.Given(w); p != one%procs || spins != (one%2 == 0) || !note.Awake(l, m, one) {
			t.Errorf("%d is given %d, %v", one, p, spins)
		}
	}
	if got, right := idlep.List(l, m); !right || !slices.Equal(got, []int{5}) || m.Bad() != 0 {
		t.Errorf("List: %v, %v, bad %d", got, right, m.Bad())
	}
}

// Promise 19.1: a Start of a memory that has no words ends: all its accesses are bad, and there is a thread, a new one.
func TestStartNoWords(t *testing.T) {
	l, _ := lay(t)
	m, _ := cell.New(0)
	x := wake.New(l, math.MaxInt, 3, true, true)
	acts.All(t, m, x)
	tells(t, x, seen{api.None, 0, false})
}
