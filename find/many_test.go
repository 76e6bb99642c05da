package find_test

import (
	"slices"
	"testing"

	"turnspit/acts"
	"turnspit/api"
	"turnspit/cell"
	"turnspit/draw"
	"turnspit/find"
	"turnspit/globq"
	"turnspit/idlep"
	"turnspit/layout"
	"turnspit/lock"
	"turnspit/rest"
	"turnspit/ring"
	"turnspit/rput"
	"turnspit/wake"
)

// worker is a thread: it naps, or finds a goroutine, or has one that runs, and lays others into its ring, or gives way.
type worker struct {
	t     int
	nap   *rest.Nap
	find  *find.Find
	p     int // while it neither naps nor finds
	spins bool
	g     int // the one that runs
	put   *rput.Put
	queue *globq.Put
	wakes *wake.Wake
	todo  []func(m *cell.Mem) bool // what it does, one by one, ahead of what comes next
}

// office is all workers, and the goroutines that nobody has begun.
type office struct {
	l       *layout.Layout
	m       *cell.Mem
	draws   *draw.Cursor
	workers []*worker
	pool    []int
	roll    uint64
	found   int // how often one was found
}

// open is an office at its beginning: worker 0 has processor 0, and finds; goroutine 0 lies in its ring.
func open(t *testing.T, c api.Config, roll uint64) *office {
	t.Helper()
	l, m := acts.Lay(t, c)
	o := &office{l: l, m: m, roll: roll}
	var draws []uint64
	for range 300 {
		draws = append(draws, uint64(o.below(1<<30)))
	}
	o.draws = draw.New(draws)
	m.Store(99, l.Word(layout.Threads), 1)
	for p := c.Procs - 1; p > 0; p-- {
		idle(t, l, m, p)
	}
	fill(l, m, 0, api.None, 0)
	for g := 1; g < c.Gs; g++ {
		o.pool = append(o.pool, g)
	}
	for one := range c.Threads {
		x := &worker{t: one, p: api.None, g: api.None}
		if one == 0 {
			x.find = find.New(l, 0, 0, false, o.draws)
		} else {
			x.nap = rest.New(l, one)
		}
		o.workers = append(o.workers, x)
	}
	return o
}

// below is a number below n.
func (o *office) below(n int) int {
	o.roll = o.roll*6364136223846793005 + 1442695040888963407
	return int(o.roll >> 33 % uint64(n))
}

// runs tells whether all that it does is to let a goroutine run.
func (x *worker) runs() bool {
	return x.nap == nil && x.find == nil && len(x.todo) == 0
}

// step does a step of a worker.
func (o *office) step(x *worker) {
	switch {
	case x.nap != nil:
		if x.nap.Step(o.m) {
			x.find, x.nap = find.New(o.l, x.t, x.nap.P(), x.nap.Spins(), o.draws), nil
		}
	case x.find != nil:
		if x.find.Step(o.m) {
			o.start(x)
		}
	case len(x.todo) > 0:
		if x.todo[0](o.m) {
			x.todo = x.todo[1:]
		}
	default:
		o.act(x)
	}
}

// start starts what was found: who spun counts out, and wakes another one.
func (o *office) start(x *worker) {
	x.g, x.p, x.spins = x.find.G(), x.find.P(), x.find.Spins()
	if !x.find.Inherits() {
		x.todo = append(x.todo, func(m *cell.Mem) bool {
			m.Add(x.t, o.l.Proc(x.p, layout.Turns), 1)
			return true
		})
	}
	x.find = nil
	o.found++
	if x.spins {
		x.todo = append(x.todo, func(m *cell.Mem) bool {
			m.Add(x.t, o.l.Word(layout.Spinning), less)
			x.spins = false
			return true
		})
		o.wake(x)
	}
}

// wake lets another one be woken.
func (o *office) wake(x *worker) {
	x.todo = append(x.todo, func(m *cell.Mem) bool {
		if x.wakes == nil {
			x.wakes = wake.NewWake(o.l, x.t)
		}
		done := x.wakes.Step(m)
		if done {
			x.wakes = nil
		}
		return done
	})
}

// seek lets it find another one, with the processor that it has.
func (o *office) seek(x *worker) {
	x.todo = append(x.todo, func(m *cell.Mem) bool {
		x.find = find.New(o.l, x.t, x.p, false, o.draws)
		x.p = api.None
		x.find.Step(m)
		return true
	})
}

// act does what a goroutine may do: lay another one into the ring, give way there, or behind the queue, or end.
func (o *office) act(x *worker) {
	busy := o.l.Config().Gs - len(o.pool)
	switch what := o.below(40); {
	case what < 16 && len(o.pool) > 0:
		x.put = rput.New(o.l, x.t, x.p, o.pool[0], what%3 > 0)
		o.pool = o.pool[1:]
		x.todo = append(x.todo, x.put.Step)
		o.wake(x)
	case what < 20:
		x.put, x.g = rput.New(o.l, x.t, x.p, x.g, false), api.None
		x.todo = append(x.todo, x.put.Step)
		o.wake(x)
		o.seek(x)
	case what < 24:
		x.queue, x.g = globq.New(o.l, x.t, []int{x.g}), api.None
		x.todo = append(x.todo, lock.New(o.l, 0, x.t).Step, x.queue.Step, lock.NewRelease(o.l, 0, x.t).Step)
		o.wake(x)
		o.seek(x)
	case what < 38 && busy > 1:
		o.pool, x.g = append(o.pool, x.g), api.None
		o.seek(x)
	default:
		o.m.Store(99, o.l.Proc(x.p, layout.Preempt), 1)
	}
}

// one is a list of one, or of none.
func one(n int) []int {
	if n == api.None {
		return nil
	}
	return []int{n}
}

// goroutines are the places of all goroutines: each is to be there once.
func (o *office) goroutines(t *testing.T) []int {
	t.Helper()
	list, right := globq.List(o.l, o.m)
	list = append(list, o.pool...)
	for p := range o.l.Config().Procs {
		gs, is := ring.Gs(o.l, o.m, p)
		list, right = append(list, gs...), right && is
	}
	for _, x := range o.workers {
		list = slices.Concat(list, x.find.Holds(), x.put.Holds(), x.queue.Holds(), one(x.g))
	}
	if !right {
		t.Errorf("a ring, or the queue, may not be")
	}
	slices.Sort(list)
	return list
}

// processors are the places of all processors, how many count in Spinning, and besides how many wake another one.
func (o *office) processors(t *testing.T) (list []int, count, wakers uint64) {
	t.Helper()
	list, right := idlep.List(o.l, o.m)
	have := func(p int, counts bool) {
		list = append(list, one(p)...)
		if counts {
			count++
		}
	}
	for _, x := range o.workers {
		w, _ := o.m.Peek(o.l.Thread(x.t, layout.Given))
		have(wake.Given(w))
		have(x.nap.P(), x.nap.Spins())
		have(x.find.P(), x.find.Spins())
		have(x.p, x.spins)
		have(x.wakes.Holds(), x.wakes.Counts())
		if !x.wakes.Done() {
			wakers++
		}
	}
	if !right {
		t.Errorf("the list may not be")
	}
	slices.Sort(list)
	return list, count, wakers
}

// holds holds all places against what they should be.
func (o *office) holds(t *testing.T) {
	t.Helper()
	c := o.l.Config()
	if gs := o.goroutines(t); !slices.Equal(gs, rising(c.Gs)) {
		t.Errorf("goroutines: %v", gs)
	}
	ps, count, wakers := o.processors(t)
	if !slices.Equal(ps, rising(c.Procs)) {
		t.Errorf("processors: %v", ps)
	}
	spinning, _ := o.m.Peek(o.l.Word(layout.Spinning))
	if spinning < count || spinning > count+wakers || spinning > uint64(c.Procs) || o.m.Bad() != 0 {
		t.Errorf("Spinning %d, where %d count, and %d wake; bad %d", spinning, count, wakers, o.m.Bad())
	}
}

// rising are so many numbers, from 0 on.
func rising(n int) []int {
	list := make([]int, n)
	for i := range list {
		list[i] = i
	}
	return list
}

// rest goes on with all who do anything but let a goroutine run, until there is none, or all are asleep.
func (o *office) rest(t *testing.T) {
	t.Helper()
	for range 30000 {
		var awake []*worker
		for _, x := range o.workers {
			asleep := x.nap.Asleep(o.m) || x.find.Asleep(o.m)
			if !x.runs() && !asleep {
				awake = append(awake, x)
			}
		}
		if len(awake) == 0 {
			return
		}
		o.step(awake[o.below(len(awake))])
	}
	t.Fatalf("it does not come to rest")
}

// fine holds that there is no work that waits, or no processor is idle, and that nobody counts in Spinning.
func (o *office) fine(t *testing.T) (work, room bool) {
	t.Helper()
	list, _ := globq.List(o.l, o.m)
	work = len(list) > 0
	for p := range o.l.Config().Procs {
		work = work || !ring.Empty(o.l, o.m, p)
	}
	ps, _ := idlep.List(o.l, o.m)
	if work && len(ps) > 0 {
		t.Errorf("processors %v are idle, and there is work: the queue has %v", ps, list)
	}
	if w, _ := o.m.Peek(o.l.Word(layout.Spinning)); w != 0 {
		t.Errorf("Spinning %d, where all rest", w)
	}
	return work, len(ps) > 0
}

// Promises 21.2 and 21.3: however many threads find, wake one another, and come to rest, each goroutine and each processor is at each step in one place; and whenever all rest there is no work that waits, or no processor is idle.
func TestMany(t *testing.T) {
	for _, c := range []api.Config{{Procs: 1, Threads: 1, Gs: 3}, {Procs: 2, Threads: 2, Gs: 5}, {Procs: 3, Threads: 5, Gs: 4}, {Procs: 4, Threads: 4, Gs: 30}, {Procs: 7, Threads: 9, Gs: 9}} {
		works, rooms, found := 0, 0, 0
		for seed := range uint64(12) {
			o := open(t, c, seed)
			for n := range 150 {
				for range o.below(120) {
					o.step(o.workers[o.below(len(o.workers))])
					o.holds(t)
					if t.Failed() {
						t.Fatalf("%v, seed %d, round %d", c, seed, n)
					}
				}
				o.rest(t)
				o.holds(t)
				work, room := o.fine(t)
				if t.Failed() {
					t.Fatalf("%v, seed %d, round %d", c, seed, n)
				}
				if work {
					works++
				}
				if room {
					rooms++
				}
			}
			found += o.found
		}
		if works < 20 || c.Procs > 1 && rooms < 20 || found < 500 {
			t.Errorf("%v: %d times work waited, %d times a processor was idle, %d were found", c, works, rooms, found)
		}
	}
}
