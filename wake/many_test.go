package wake_test

import (
	"slices"
	"testing"

	"turnspit/acts"
	"turnspit/api"
	"turnspit/cell"
	"turnspit/idlem"
	"turnspit/idlep"
	"turnspit/layout"
	"turnspit/lock"
	"turnspit/note"
	"turnspit/wake"
)

// actor is a thread that has a processor or none, wakes others, spins for a while, and comes to rest; or one from without, that wakes threads alone.
type actor struct {
	t       int
	without bool
	p       int // None: it has none
	spins   bool
	wakes   *wake.Wake
	put     *idlep.Put               // puts p on the list
	todo    []func(m *cell.Mem) bool // what it does, one by one
}

// step does a step; rests tells whether it is to come to rest, if it begins with something else.
func (x *actor) step(l *layout.Layout, m *cell.Mem, rests bool) {
	if len(x.todo) == 0 {
		x.begin(l, rests)
	}
	if x.todo[0](m) {
		x.todo = x.todo[1:]
	}
}

// begin begins with something else: without a processor it naps; if it spins, it counts itself out; else it rests, or wakes another one.
func (x *actor) begin(l *layout.Layout, rests bool) {
	switch {
	case x.p == api.None && !x.without:
		x.nap(l)
	case x.spins:
		x.todo = append(x.todo, func(m *cell.Mem) bool {
			m.Add(x.t, l.Word(layout.Spinning), less)
			x.spins = false
			return true
		})
	case rests && !x.without:
		x.rest(l)
	default:
		x.wakes = wake.NewWake(l, x.t)
		x.todo = append(x.todo, x.wakes.Step)
	}
}

// rest lets the processor, and then the thread, lie on the lists, with the lock; the put is made at once, so that it holds the processor.
func (x *actor) rest(l *layout.Layout) {
	x.put = idlep.New(l, x.t, x.p)
	x.p = api.None
	x.todo = append(x.todo, lock.New(l, 0, x.t).Step, x.put.Step, idlem.New(l, x.t, x.t).Step, lock.NewRelease(l, 0, x.t).Step)
}

// nap lets it sleep until it is given a processor, and take that.
func (x *actor) nap(l *layout.Layout) {
	at, w := l.Thread(x.t, layout.Given), uint64(0)
	x.todo = append(x.todo, note.New(l, x.t).Step, func(m *cell.Mem) bool {
		w = m.Load(x.t, at)
		return true
	}, func(m *cell.Mem) bool {
		m.Store(x.t, at, 0)
		x.p, x.spins = wake.Given(w)
		return true
	})
}

// where are all places in which processors are, and how many count in Spinning; besides how many wake another one.
func where(l *layout.Layout, m *cell.Mem, actors []*actor) (places []int, count, wakers uint64) {
	places, _ = idlep.List(l, m)
	have := func(p int, counts bool) {
		if p != api.None {
			places = append(places, p)
		}
		if counts {
			count++
		}
	}
	for _, x := range actors {
		w, _ := m.Peek(l.Thread(x.t, layout.Given))
		have(wake.Given(w))
		have(x.p, x.spins)
		have(x.put.Holds(), false)
		have(x.wakes.Holds(), x.wakes.Counts())
		if !x.wakes.Done() {
			wakers++
		}
	}
	slices.Sort(places)
	return places, count, wakers
}

// rising are so many numbers, from 0 on.
func rising(n int) []int {
	list := make([]int, n)
	for i := range list {
		list[i] = i
	}
	return list
}

// Promises 19.1 and 19.3: however threads wake one another, spin and come to rest, each processor is at each step on the list, or in one's hand, or given to one; Spinning is how many count, or more by at most as many as wake another one.
func TestMany(t *testing.T) {
	for _, c := range []api.Config{{Procs: 4, Threads: 6, Gs: 1}, {Procs: 5, Threads: 5, Gs: 1}, {Procs: 7, Threads: 20, Gs: 1}, {Procs: 2, Threads: 2, Gs: 1}} {
		l, m := acts.Lay(t, c)
		m.Store(99, l.Word(layout.Threads), 1)
		idle(t, l, m, rising(c.Procs)[1:]...)
		actors := []*actor{{t: 0, p: 0}, {t: c.Threads, p: api.None, without: true}}
		for one := 1; one < c.Threads; one++ {
			actors = append(actors, &actor{t: one, p: api.None})
		}
		roll, naps, needed := uint64(3), 0, uint64(0)
		for n := range 100000 {
			roll = roll*6364136223846793005 + 1442695040888963407
			x := actors[roll>>33%uint64(len(actors))]
			had := x.p
			x.step(l, m, n/4000%2 == 1 && roll>>40%8 == 0) // for a while nobody rests, so that all are busy
			if had == api.None && x.p != api.None {
				naps++
			}
			needed += word(l, m, layout.Needs)
			m.Store(99, l.Word(layout.Needs), 0)
			places, count, wakers := where(l, m, actors)
			if spinning := word(l, m, layout.Spinning); !slices.Equal(places, rising(c.Procs)) || spinning < count || spinning > count+wakers {
				t.Fatalf("step %d: processors %v, Spinning %d, where %d count, and %d wake", n, places, spinning, count, wakers)
			}
		}
		if naps < 50 || needed < 50 || m.Bad() != 0 {
			t.Errorf("%v: %d naps ended, %d times one was needed, bad %d", c, naps, needed, m.Bad())
		}
	}
}
