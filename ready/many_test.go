package ready_test

import (
	"slices"
	"testing"

	"turnspit/acts"
	"turnspit/api"
	"turnspit/cell"
	"turnspit/globq"
	"turnspit/layout"
	"turnspit/ready"
	"turnspit/ring"
)

// each calls what with each order of so many steps of each of so many machines.
func each(machines, steps int, what func(order []int)) {
	left := make([]int, machines)
	for i := range left {
		left[i] = steps
	}
	var order []int
	var goOn func()
	goOn = func() {
		if len(order) == machines*steps {
			what(order)
			return
		}
		for i := range left {
			if left[i] > 0 {
				left[i]--
				order = append(order, i)
				goOn()
				order = order[:len(order)-1]
				left[i]++
			}
		}
	}
	goOn()
}

// Promise 23.3: of three that ready one goroutine that waits just one does, in whichever order their first three steps go; the numbers by which they tell it are unlike.
func TestJustOneReadies(t *testing.T) {
	config := api.Config{Procs: procs, Threads: procs, Gs: 5}
	won, orders := make([]int, procs), 0
	each(procs, 3, func(order []int) {
		orders++
		l, m := acts.Lay(t, config)
		m.Store(99, l.Word(layout.Gs), 4)
		m.Store(99, l.Word(layout.Spinning), 1)
		m.Store(99, l.G(2, layout.GStatus), api.GWaiting)
		var all []*ready.Ready
		for p := range procs {
			all = append(all, ready.New(l, p, p, 2+4*p))
		}
		for _, i := range order {
			all[i].Step(m)
		}
		var who []int
		for i, x := range all {
			acts.All(t, m, x)
			switch x.G() {
			case 2:
				who = append(who, i)
			case api.None:
			default:
				t.Errorf("%d readied %d", i, x.G())
			}
		}
		if len(who) != 1 {
			t.Fatalf("order %v: %v readied it", order, who)
		}
		won[who[0]]++
		for p := range procs {
			gs, _ := ring.Gs(l, m, p)
			if want := p == who[0]; slices.Equal(gs, []int{2}) != want || len(gs) > 0 != want {
				t.Errorf("order %v: the ring of %d: %v", order, p, gs)
			}
		}
	})
	if orders != 1680 || slices.Min(won) != slices.Max(won) {
		t.Errorf("%d orders, %v", orders, won)
	}
}

// The chapter's example.
func TestExample(t *testing.T) {
	l, m := acts.Lay(t, api.Config{Procs: 2, Threads: 2, Gs: 3})
	m.Store(99, l.Word(layout.Gs), 3)
	acts.All(t, m, ready.NewGive(l, 0, 0, 1, ready.Parks))
	a, b := ready.New(l, 0, 0, 1), ready.New(l, 1, 1, 4)
	for range 20 {
		a.Step(m)
		b.Step(m)
	}
	if !a.Done() || !b.Done() || a.G() != 1 || b.G() != api.None || m.Bad() != 0 {
		t.Errorf("%d, %d; bad %d", a.G(), b.G(), m.Bad())
	}
}

// actor is a thread that has a processor, at which goroutines run, one at a time.
type actor struct {
	t, p    int
	g       int // the one that runs
	give    *ready.Give
	ready   *ready.Ready
	readied int
}

// step does a step; if it has nothing under way, it begins with something, as a roll says.
func (x *actor) step(l *layout.Layout, m *cell.Mem, roll uint64) {
	switch {
	case !x.give.Done():
		x.give.Step(m)
		if x.give.Gave() {
			x.g = api.None
		}
	case !x.ready.Done():
		was := x.ready.G()
		x.ready.Step(m)
		if was == api.None && x.ready.G() != api.None {
			x.readied++
		}
	case x.g == api.None && roll%4 == 0: // so that there is something to be readied
		x.ready = ready.New(l, x.t, x.p, int(roll>>8%1000))
	case x.g == api.None:
		x.takes(l, m)
	case roll%2 == 0:
		x.ready = ready.New(l, x.t, x.p, int(roll>>8%1000))
	default:
		x.give = ready.NewGive(l, x.t, x.p, x.g, int(roll>>4%5))
	}
}

// takes lets one run out of its ring, the oldest one, or the next one, or one out of the queue, if nobody has the lock.
func (x *actor) takes(l *layout.Layout, m *cell.Mem) {
	inRing, next := ring.Words(l, m, x.p)
	inQueue, _ := globq.List(l, m)
	owner, _ := m.Peek(l.Owner(0))
	switch ticket, serving := l.Ticket(0), l.Serving(0); {
	case len(inRing) > 0:
		head, _ := m.Peek(l.Proc(x.p, layout.Head))
		m.Store(x.t, l.Proc(x.p, layout.Head), (head+1)%round)
		x.g = int(inRing[0] - 1)
	case next != 0:
		m.Store(x.t, l.Proc(x.p, layout.Next), 0)
		x.g = int(next - 1)
	case len(inQueue) > 0 && owner == 0 && peek(m, ticket) == peek(m, serving):
		x.g = inQueue[0]
		pull := globq.NewPull(l, x.t)
		for range 5 {
			pull.Step(m)
		}
	default:
		return
	}
	m.Store(x.t, l.G(x.g, layout.GStatus), api.GRunning)
}

// peek is what stands at a place.
func peek(m *cell.Mem, at int) uint64 {
	w, _ := m.Peek(at)
	return w
}

// places holds each goroutine against its Status: it is in just one place, which suits that.
func places(t *testing.T, l *layout.Layout, m *cell.Mem, actors []*actor) {
	t.Helper()
	list, right := globq.List(l, m)
	var run []int
	for _, x := range actors {
		lie, is := ring.Gs(l, m, x.p)
		list, right = slices.Concat(list, lie, x.give.Holds(), x.ready.Holds()), right && is
		if x.g != api.None {
			run = append(run, x.g)
		}
	}
	for g := range l.Config().Gs {
		runs, lies := 0, 0
		for _, one := range run {
			if one == g {
				runs++
			}
		}
		for _, one := range list {
			if one == g {
				lies++
			}
		}
		want := map[uint64][2]int{api.GRunnable: {0, 1}, api.GRunning: {1, 0}, api.GWaiting: {0, 0}}[peek(m, l.G(g, layout.GStatus))]
		if got := [2]int{runs, lies}; got != want || !right {
			t.Fatalf("%d is %d, runs %d times, and lies %d times; %v", g, peek(m, l.G(g, layout.GStatus)), runs, lies, right)
		}
	}
}

// Promises 23.2 and 23.3: however many give way, and ready one another, between one another, each goroutine is at each step in one place, which suits its Status.
func TestMany(t *testing.T) {
	const many = 7
	for seed := range uint64(5) {
		l, m := acts.Lay(t, api.Config{Procs: procs, Threads: procs, Gs: many})
		m.Store(99, l.Word(layout.Gs), many)
		m.Store(99, l.Word(layout.Spinning), 1)
		var actors []*actor
		for p := range procs {
			actors = append(actors, &actor{t: p, p: p, g: api.None})
		}
		for g := range many {
			m.Store(99, l.G(g, layout.GStatus), api.GWaiting)
		}
		roll, readied := seed, 0
		for range 20000 {
			roll = roll*6364136223846793005 + 1442695040888963407
			actors[roll>>33%procs].step(l, m, roll>>36)
			places(t, l, m, actors)
		}
		for _, x := range actors {
			readied += x.readied
		}
		if readied < 200 || m.Bad() != 0 {
			t.Errorf("seed %d: %d were readied, bad %d", seed, readied, m.Bad())
		}
	}
}
