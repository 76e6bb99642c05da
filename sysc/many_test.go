package sysc_test

import (
	"slices"
	"testing"

	"turnspit/acts"
	"turnspit/api"
	"turnspit/cell"
	"turnspit/globq"
	"turnspit/idlep"
	"turnspit/layout"
	"turnspit/lock"
	"turnspit/sysc"
)

// roll is a number by which tests go one way or another.
type roll uint64

// below is a number below n.
func (r *roll) below(n int) int {
	*r = *r*6364136223846793005 + 1442695040888963407
	return int(*r >> 33 % roll(n))
}

// Promise 24.3: of two that come out with one processor, which both left, or which is the only idle one, just one has it, however they go on between one another; the other one's goroutine lies in the queue.
func TestTwoWithOne(t *testing.T) {
	const a, b = 3, 4 // the goroutines
	for _, left := range []bool{false, true} {
		paths := map[[2]bool]int{}
		r := roll(7)
		for range 3000 {
			l, m := lay(t)
			if left {
				m.Store(99, l.Proc(2, layout.Status), api.PSyscall)
			} else {
				idle(t, l, m, 0)
			}
			x, y := sysc.NewOut(l, 5, 2, a), sysc.NewOut(l, 6, 2, b)
			often := 1 + r.below(9)
			for n := 0; n < 2000 && !(x.Done() && y.Done()); n++ {
				if r.below(often+1) == 0 {
					x.Step(m)
				} else {
					y.Step(m)
				}
			}
			one := 0
			if left {
				one = 2
			}
			first, second := seen{p: one, came: true, runs: true}, seen{p: api.None, came: true}
			gotA, gotB := look(x), look(y)
			list, _ := globq.List(l, m)
			switch {
			case gotA.is(first) && gotB.is(second) && slices.Equal(list, []int{b}):
			case gotB.is(first) && gotA.is(second) && slices.Equal(list, []int{a}):
			default:
				t.Fatalf("%v, %v, the queue %v", gotA, gotB, list)
			}
			paths[[2]bool{gotA.runs, gotB.runs}]++
		}
		if len(paths) != 2 || paths[[2]bool{true, false}] < 100 || paths[[2]bool{false, true}] < 100 {
			t.Errorf("%v", paths)
		}
	}
}

// caller is a thread that goes in and comes out, with a processor and a goroutine, or waits for these.
type caller struct {
	t    int
	p, g int // None: it has none; of one that goes in, or is in, until the In and the Out tell
	in   *sysc.In
	out  *sysc.Out
	get  *idlep.Get
	pull *globq.Pull
	put  *idlep.Put
	todo []func(m *cell.Mem) bool // what it does, one by one
	kept bool                     // nobody else took its processor since it went in
	ways map[string]int           // how often it came out which way
	odd  bool                     // nobody took its processor, and it came out without it
}

// do lets something be done, access by access, and then something follow.
func (x *caller) do(does func(m *cell.Mem) bool, then func()) {
	x.todo = append(x.todo, func(m *cell.Mem) bool {
		done := does(m)
		if done {
			then()
		}
		return done
	})
}

// store is what stores a word.
func (x *caller) store(at int, w uint64) func(m *cell.Mem) bool {
	return func(m *cell.Mem) bool {
		m.Store(x.t, at, w)
		return true
	}
}

// step does a step; if it has nothing under way, it begins with what comes next.
func (x *caller) step(l *layout.Layout, m *cell.Mem, r *roll) {
	if len(x.todo) > 0 {
		if x.todo[0](m) {
			x.todo = x.todo[1:]
		}
		return
	}
	switch {
	case x.in != nil && x.out == nil && r.below(30) == 0:
		x.comesOut(l)
	case x.in != nil:
	case x.g != api.None:
		x.goesIn(l)
	default:
		x.waits(l)
	}
}

// goesIn goes in: the processor is left behind by the last step.
func (x *caller) goesIn(l *layout.Layout) {
	x.in, x.kept = sysc.New(l, x.t, x.p, x.g), true
	x.do(x.in.Step, func() {})
}

// comesOut comes out, and starts the goroutine, if that is in the hand.
func (x *caller) comesOut(l *layout.Layout) {
	x.out = sysc.NewOut(l, x.t, x.p, x.g)
	x.do(x.out.Step, func() {
		was, held := x.p, x.out.Holds()
		x.in, x.p = nil, x.out.P()
		x.odd = x.odd || x.kept && (x.p != was || !x.out.Runs())
		switch {
		case x.out.Runs() && x.kept:
			x.ways["kept"]++
		case x.out.Runs():
			x.ways["another"]++
		case held != nil:
			x.ways["late"]++
			x.do(x.store(l.G(x.g, layout.GStatus), api.GRunning), func() { x.out = nil })
			return
		default:
			x.ways["none"]++
			x.g = api.None
		}
		x.out = nil
	})
}

// waits gets a processor, and one out of the queue; if there is just one of these, it gives that back.
func (x *caller) waits(l *layout.Layout) {
	x.do(lock.New(l, 0, x.t).Step, func() {
		x.get = idlep.NewGet(l, x.t)
	})
	x.do(func(m *cell.Mem) bool { return x.get.Step(m) }, func() {
		x.p, x.get = x.get.P(), nil
		x.pull = globq.NewPull(l, x.t)
		if x.p == api.None {
			x.pull = nil
		}
	})
	x.do(func(m *cell.Mem) bool { return x.pull.Step(m) }, func() {
		x.g, x.pull = x.pull.G(), nil
		if x.p != api.None && x.g == api.None {
			x.put = idlep.New(l, x.t, x.p)
			x.p = api.None
		}
	})
	x.do(func(m *cell.Mem) bool { return x.put.Step(m) }, func() { x.put = nil })
	x.do(lock.NewRelease(l, 0, x.t).Step, func() {
		if x.g != api.None {
			x.do(x.store(l.Proc(x.p, layout.Status), api.PRunning), func() {})
			x.do(x.store(l.G(x.g, layout.GStatus), api.GRunning), func() {})
		}
	})
}

// taker takes processors that were left, and lays them on the list.
type taker struct {
	todo []flowing // what is left of: to acquire the lock, to put the processor, to release the lock
	put  *idlep.Put
}

// has is the processor in its hand.
func (x *taker) has() int {
	if len(x.todo) < 2 {
		return api.None
	}
	return x.put.Holds()
}

// took tells all who went in with a processor, but who takes it right now, that it was taken: another one takes it, or, having gone in with it, too, ahead of them, comes out with it.
func took(l *layout.Layout, m *cell.Mem, callers []*caller) {
	a := m.Last()
	for _, y := range callers {
		if a.Kind == api.AcSwap && a.Done && y.p != api.None && a.At == l.Proc(y.p, layout.Status) && a.Who != y.t {
			y.kept = false
		}
	}
}

// flowing is a machine that it goes on with.
type flowing interface{ Step(m *cell.Mem) bool }

// step does a step; if it has nothing under way, it takes a processor, if its thread left it.
func (x *taker) step(l *layout.Layout, m *cell.Mem, r *roll) {
	if len(x.todo) > 0 {
		if x.todo[0].Step(m) {
			x.todo = x.todo[1:]
		}
		return
	}
	p := r.below(l.Config().Procs)
	if !m.Swap(80, l.Proc(p, layout.Status), api.PSyscall, api.PIdle) {
		return
	}
	x.put = idlep.New(l, 80, p)
	x.todo = []flowing{lock.New(l, 0, 80), x.put, lock.NewRelease(l, 0, 80)}
}

// hold holds a place of a thing; None is no place.
func hold(list map[int]int, n int) {
	if n != api.None {
		list[n]++
	}
}

// where are all places of goroutines that run, are in a call, or lie somewhere, and of processors.
func where(t *testing.T, l *layout.Layout, m *cell.Mem, callers []*caller, x *taker) (run, call, lie, procs map[int]int) {
	t.Helper()
	run, call, lie, procs = map[int]int{}, map[int]int{}, map[int]int{}, map[int]int{}
	queue, rightQ := globq.List(l, m)
	ps, rightP := idlep.List(l, m)
	if !rightQ || !rightP {
		t.Fatalf("the lists: %v, %v", queue, ps)
	}
	for _, g := range queue {
		hold(lie, g)
	}
	for _, p := range ps {
		hold(procs, p)
	}
	for p := range l.Config().Procs {
		if peek(m, l.Proc(p, layout.Status)) == api.PSyscall {
			hold(procs, p)
		}
	}
	hold(procs, x.has())
	for _, y := range callers {
		y.where(l, m, run, call, lie, procs)
	}
	return run, call, lie, procs
}

// where tells what one thread has.
func (x *caller) where(l *layout.Layout, m *cell.Mem, run, call, lie, procs map[int]int) {
	hold(procs, x.get.P())
	hold(procs, x.put.Holds())
	hold(lie, x.pull.G())
	switch {
	case x.out != nil:
		hold(procs, x.out.P())
		for _, g := range x.out.Holds() {
			hold(lie, g)
		}
		if x.out.Runs() {
			hold(run, x.g)
		} else if !x.out.Came() {
			hold(call, x.g)
		}
	case x.in != nil && !x.in.Done():
		hold(procs, x.p)
		if x.in.Went() {
			hold(call, x.g)
		} else {
			hold(run, x.g)
		}
	case x.in != nil:
		hold(call, x.g)
	default:
		hold(procs, x.p)
		if x.g != api.None && peek(m, l.G(x.g, layout.GStatus)) == api.GRunning {
			hold(run, x.g)
		} else {
			hold(lie, x.g)
		}
	}
}

// Promises 24.2 and 24.3: however many go in and come out, between one another, and another one takes the processors that they left: each goroutine is at each step in one place, which suits its Status, and each processor in one; who comes out has a processor, or the goroutine waits in the queue; if nobody took the processor, it is that one.
func TestMany(t *testing.T) {
	for _, c := range []api.Config{{Procs: 1, Threads: 3, Gs: 3}, {Procs: 2, Threads: 4, Gs: 4}, {Procs: 3, Threads: 4, Gs: 4}} {
		ways := map[string]int{}
		for seed := range 4 {
			l, m := acts.Lay(t, c)
			r, x := roll(seed), &taker{}
			var callers []*caller
			for one := range c.Threads {
				y := &caller{t: one, p: api.None, g: api.None, ways: ways}
				callers = append(callers, y)
			}
			for p := range c.Procs {
				acts.All(t, m, idlep.New(l, 99, p))
			}
			acts.All(t, m, globq.New(l, 99, rising(c.Gs)))
			for g := range c.Gs {
				m.Store(99, l.G(g, layout.GStatus), api.GRunnable)
			}
			for n := range 20000 {
				if i := r.below(c.Threads + 1); i < c.Threads {
					callers[i].step(l, m, &r)
				} else if n/2000%2 == 0 || len(x.todo) > 0 { // for a while nobody takes anything
					x.step(l, m, &r)
				}
				took(l, m, callers)
				right(t, l, m, callers, x)
				if t.Failed() {
					t.Fatalf("%v, seed %d, step %d", c, seed, n)
				}
			}
			if m.Bad() != 0 {
				t.Errorf("bad: %d", m.Bad())
			}
		}
		for _, way := range []string{"kept", "another", "late", "none"} {
			if ways[way] < 20 {
				t.Errorf("%v: %s: %d times", c, way, ways[way])
			}
		}
	}
}

// rising are so many numbers, from 0 on.
func rising(n int) []int {
	list := make([]int, n)
	for i := range list {
		list[i] = i
	}
	return list
}

// right holds all places against what they should be.
func right(t *testing.T, l *layout.Layout, m *cell.Mem, callers []*caller, x *taker) {
	t.Helper()
	run, call, lie, procs := where(t, l, m, callers, x)
	for _, y := range callers {
		if y.odd {
			t.Errorf("%d came out without the processor that nobody took", y.t)
		}
	}
	for g := range l.Config().Gs {
		want := map[uint64][3]int{api.GRunning: {1, 0, 0}, api.GSyscall: {0, 1, 0}, api.GRunnable: {0, 0, 1}}[peek(m, l.G(g, layout.GStatus))]
		if got := [3]int{run[g], call[g], lie[g]}; got != want {
			t.Errorf("%d is %d: runs, is in a call, lies: %v", g, peek(m, l.G(g, layout.GStatus)), got)
		}
	}
	for p := range l.Config().Procs {
		if procs[p] != 1 {
			t.Errorf("processor %d: %d times, Status %d", p, procs[p], peek(m, l.Proc(p, layout.Status)))
		}
	}
}
