package hand_test

import (
	"testing"

	"turnspit/acts"
	"turnspit/api"
	"turnspit/cell"
	"turnspit/hand"
	"turnspit/idlem"
	"turnspit/idlep"
	"turnspit/layout"
	"turnspit/lock"
	"turnspit/rest"
	"turnspit/ring"
	"turnspit/wake"
)

// does is what somebody goes on with, access by access, and tells when it is done.
type does func(m *cell.Mem) bool

// hander takes processors that were left, and hands them over.
type hander struct {
	who  int
	over *hand.Over
	work bool // did the ring have something when it was taken; nobody lays anything there meanwhile
}

// worker is a thread: it naps, has a processor for some time, leaves it, and lies on the list of idle ones.
type worker struct {
	t     int
	nap   *rest.Nap // nil: it has p, or does what it has to do
	p     int
	spins bool
	todo  []does
}

// plant is all of them.
type plant struct {
	t       *testing.T
	l       *layout.Layout
	m       *cell.Mem
	handers []*hander
	workers []*worker
	roll    uint64
	ends    map[string]int // how often a processor that was handed over came where
}

// below is a number below n.
func (x *plant) below(n int) int {
	x.roll = x.roll*6364136223846793005 + 1442695040888963407
	return int(x.roll >> 33 % uint64(n))
}

// word is what stands at a place.
func (x *plant) word(at int) uint64 {
	w, _ := x.m.Peek(at)
	return w
}

// once is one access.
func once(access func(m *cell.Mem)) does {
	return func(m *cell.Mem) bool {
		access(m)
		return true
	}
}

// work does a step of a thread.
func (x *plant) work(y *worker) {
	switch {
	case y.nap != nil:
		if y.nap.Step(x.m) {
			y.p, y.spins, y.nap = y.nap.P(), y.nap.Spins(), nil
			x.has(y)
		}
	case y.todo[0](x.m):
		y.todo = y.todo[1:]
	}
}

// has goes on with a processor: who spins counts out, or says first that others are needed; then its ring has something, or nothing; then it is left behind, and the thread is idle.
func (x *plant) has(y *worker) {
	at := func(field int) int { return x.l.Proc(y.p, field) }
	if y.spins {
		y.todo = append(y.todo, once(func(m *cell.Mem) {
			m.Add(y.t, x.l.Word(layout.Spinning), less)
			y.spins = false
		}))
	}
	next, needs := uint64(x.below(2)), x.below(3) == 0
	if needs {
		y.todo = append(y.todo, once(func(m *cell.Mem) { m.Store(y.t, x.l.Word(layout.Needs), 1) }))
	}
	y.todo = append(y.todo, once(func(m *cell.Mem) { m.Store(y.t, at(layout.Next), next) }), once(func(m *cell.Mem) {
		m.Store(y.t, at(layout.Status), api.PSyscall)
		y.p = api.None
	}))
	for _, z := range []interface{ Step(m *cell.Mem) bool }{lock.New(x.l, 0, y.t), idlem.New(x.l, y.t, y.t), lock.NewRelease(x.l, 0, y.t)} {
		y.todo = append(y.todo, z.Step)
	}
	y.todo = append(y.todo, func(m *cell.Mem) bool {
		y.nap = rest.New(x.l, y.t)
		y.nap.Step(m)
		return true
	})
}

// hands does a step of a hander; without one in its hand it takes one, left or idle.
func (x *plant) hands(y *hander) {
	if !y.over.Done() {
		had := y.over.Holds()
		y.over.Step(x.m)
		if had != api.None && y.over.Holds() == api.None {
			x.came(had, y.work)
		}
		return
	}
	p := x.below(x.l.Config().Procs)
	if x.m.Swap(y.who, x.l.Proc(p, layout.Status), api.PSyscall, api.PIdle) {
		y.over, y.work = hand.New(x.l, y.who, p), !ring.Empty(x.l, x.m, p)
	}
}

// came counts where a processor came that was handed over: with work in its ring it is nowhere but with a thread, or left.
func (x *plant) came(p int, work bool) {
	where := "given"
	list, _ := idlep.List(x.l, x.m)
	for _, q := range list {
		if q == p {
			where = "idle"
		}
	}
	if x.word(x.l.Proc(p, layout.Status)) == api.PSyscall {
		where = "left"
	}
	if work && where == "idle" || where == "left" && idlem.Spare(x.l, x.m) > 0 {
		x.t.Errorf("processor %d, work %v: %s; %d threads to be had", p, work, where, idlem.Spare(x.l, x.m))
	}
	x.ends[where]++
}

// rouse lets a processor be idle no more: some thread is woken; without one that is what an idle one is for.
func (x *plant) rouse() {
	if list, _ := idlep.List(x.l, x.m); len(list) == 0 || x.word(x.l.Owner(0)) != 0 || x.word(x.l.Ticket(0)) != x.word(x.l.Serving(0)) {
		return
	}
	y := wake.NewWake(x.l, 98)
	for !y.Done() {
		y.Step(x.m)
	}
}

// right holds that each processor is in one place, and Spinning against how many count.
func (x *plant) right() {
	ps, count, more := map[int]int{}, uint64(0), uint64(0)
	have := func(p int, counts bool) {
		ps[p]++
		if counts {
			count++
		}
	}
	list, is := idlep.List(x.l, x.m)
	if !is {
		x.t.Errorf("idle ones: %v", list)
	}
	for _, p := range list {
		have(p, false)
	}
	for _, y := range x.handers {
		have(y.over.Holds(), y.over.Counts())
		if y.over.Holds() != api.None && !y.over.Counts() {
			more++
		}
	}
	for _, y := range x.workers {
		have(y.nap.P(), y.nap.Spins())
		if y.nap == nil {
			have(y.p, y.spins)
		}
		have(wake.Given(x.word(x.l.Thread(y.t, layout.Given))))
	}
	for p := range x.l.Config().Procs {
		had := false
		for _, y := range x.workers {
			had = had || y.nap == nil && y.p == p
		}
		if x.word(x.l.Proc(p, layout.Status)) == api.PSyscall && !had {
			ps[p]++
		}
		if ps[p] != 1 {
			x.t.Errorf("processor %d: %d places", p, ps[p])
		}
	}
	if w := x.word(x.l.Word(layout.Spinning)); w < count || w > count+more || x.m.Bad() != 0 {
		x.t.Errorf("Spinning %d, where %d count, and %d are to be given; bad %d", w, count, more, x.m.Bad())
	}
}

// openPlant is a plant whose processors were all left, and all of whose threads are to be made.
func openPlant(t *testing.T, c api.Config, handers int, seed uint64) *plant {
	t.Helper()
	l, m := acts.Lay(t, c)
	x := &plant{t: t, l: l, m: m, roll: seed, ends: map[string]int{}}
	for p := range c.Procs {
		m.Store(99, l.Proc(p, layout.Status), api.PSyscall)
		m.Store(99, l.Proc(p, layout.Next), uint64(x.below(2)))
	}
	for one := range c.Threads {
		x.workers = append(x.workers, &worker{t: one, nap: rest.New(l, one), p: api.None})
	}
	for i := range handers {
		x.handers = append(x.handers, &hander{who: c.Threads + i})
	}
	return x
}

// Promises 25.2 and 25.3: however many hand processors over, between one another and threads that leave them: at each step each processor is in one place; it is given, lies on the list, or is left, this only where no thread is to be had; with work in its ring it never lies on the list.
func TestMany(t *testing.T) {
	for _, c := range []struct {
		config  api.Config
		handers int
		ends    []string // where they come
	}{
		{api.Config{Procs: 1, Threads: 1, Gs: 1}, 1, []string{"given", "left"}},
		{api.Config{Procs: 2, Threads: 2, Gs: 1}, 2, []string{"given", "left", "idle"}},
		{api.Config{Procs: 4, Threads: 4, Gs: 1}, 2, []string{"given", "idle"}},
		{api.Config{Procs: 5, Threads: 9, Gs: 1}, 4, []string{"given", "idle"}},
	} {
		ends := map[string]int{}
		for seed := range uint64(12) {
			x := openPlant(t, c.config, c.handers, seed)
			x.ends = ends
			stalled := 0
			for n := range 20000 {
				if n%100 == 0 {
					stalled = x.below(2 * c.config.Threads) // a thread that does nothing for a while, or none
				}
				if i := x.below(len(x.workers) + 2*len(x.handers)); i < len(x.workers) && i != stalled {
					x.work(x.workers[i])
				} else if i >= len(x.workers) {
					x.hands(x.handers[(i-len(x.workers))/2])
				}
				if n%60 == 0 {
					x.rouse()
				}
				x.right()
				if t.Failed() {
					t.Fatalf("%v, seed %d, step %d", c, seed, n)
				}
			}
		}
		for _, where := range c.ends {
			if ends[where] < 20 {
				t.Errorf("%v: %v", c, ends)
			}
		}
	}
}
