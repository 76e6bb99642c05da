// Package chapters holds machines against their chapters, read line by line, while others store anything between any two steps.
package chapters

import (
	"iter"
	"slices"
	"testing"

	"turnspit/acts"
	"turnspit/api"
	"turnspit/cell"
	"turnspit/code"
	"turnspit/flow"
	"turnspit/globq"
	"turnspit/goro"
	"turnspit/idlep"
	"turnspit/layout"
	"turnspit/lock"
	"turnspit/rput"
	"turnspit/wake"
)

// seen is what a machine tells: a goroutine, a processor, what is in its hand, and what else may be so.
type seen struct {
	g, p     int
	holds    []int
	counts   bool
	was, not bool // it was spawned, ended, gave way, went in, came out; it was refused, does not run
}

// is tells whether both are the same.
func (a seen) is(b seen) bool {
	return a.g == b.g && a.p == b.p && slices.Equal(a.holds, b.holds) && a.counts == b.counts && a.was == b.was && a.not == b.not
}

// reader reads a chapter line by line: it goes on with machines, one behind the other, as the chapter says; what lies between follows at once.
type reader struct {
	l    *layout.Layout
	a    *goro.Arena
	t, p int
	path string       // how it went
	now  flow.Stepper // the machine that it goes on with; nil: it is done

	is     seen         // what it tells, but for what machines tell
	holds  func() []int // tells what is in the hand
	gotten func() int   // tells the processor that was got, or is in the hand
	some   *wake.Wake   // tells the processor in the hand, and whether it counts
	each   func()       // looks at what it goes on with, behind each step

	yield func(flow.Stepper) bool
	next  func() (flow.Stepper, bool)
	stop  func()
}

// over is what ends a reader that is not gone on with any more.
type over struct{}

// open is a reader at the beginning of what it reads.
func open(l *layout.Layout, a *goro.Arena, t, p int, read func(s *reader)) *reader {
	s := &reader{l: l, a: a, t: t, p: p, is: seen{g: api.None, p: api.None}}
	s.next, s.stop = iter.Pull(func(yield func(flow.Stepper) bool) {
		defer func() {
			if r := recover(); r != nil && r != any(over{}) {
				panic(r)
			}
		}()
		s.yield = yield
		read(s)
	})
	s.now, _ = s.next()
	return s
}

// step does a step.
func (s *reader) step(m *cell.Mem) bool {
	if s.now == nil {
		return true
	}
	done := s.now.Step(m)
	if s.each != nil {
		s.each()
	}
	if done {
		s.now, _ = s.next()
	}
	return s.now == nil
}

// look is what it tells right now.
func (s *reader) look() seen {
	is := s.is
	if s.holds != nil {
		is.holds = s.holds()
	}
	if s.gotten != nil {
		is.p = s.gotten()
	}
	if s.some != nil {
		is.p, is.counts = s.some.Holds(), s.some.Counts()
	}
	return is
}

// do goes on with a machine until it is done.
func (s *reader) do(x flow.Stepper) {
	if !s.yield(x) {
		panic(over{})
	}
}

// access does an access: what was answered.
func (s *reader) access(a api.Access) uint64 {
	x := flow.New(s.t, []api.Access{a})
	s.do(x)
	return x.Got()[0]
}

// What a chapter's lines say, one method each.
func (s *reader) load(at int) uint64   { return s.access(api.Access{Kind: api.AcLoad, At: at}) }
func (s *reader) word(w int) uint64    { return s.load(s.l.Word(w)) }
func (s *reader) puts(w int, n uint64) { s.store(s.l.Word(w), n) }
func (s *reader) store(at int, w uint64) {
	s.access(api.Access{Kind: api.AcStore, At: at, New: w})
}
func (s *reader) swap(at int, old, w uint64) bool {
	return s.access(api.Access{Kind: api.AcSwap, At: at, Old: old, New: w}) == 1
}
func (s *reader) add(at int)           { s.access(api.Access{Kind: api.AcAdd, At: at, New: 1}) }
func (s *reader) lock()                { s.do(lock.New(s.l, 0, s.t)) }
func (s *reader) unlock()              { s.do(lock.NewRelease(s.l, 0, s.t)) }
func (s *reader) what(g int, w uint64) { s.store(s.l.G(g, layout.GStatus), w) }
func (s *reader) runsProc(p int)       { s.store(s.l.Proc(p, layout.Status), api.PRunning) }
func (s *reader) wakes()               { s.some = wake.NewWake(s.l, s.t); s.do(s.some) }

// lays puts a goroutine into the ring.
func (s *reader) lays(g int, next bool) {
	x := rput.New(s.l, s.t, s.p, g, next)
	s.holds = x.Holds
	s.do(x)
}

// gets gets a processor.
func (s *reader) gets() bool {
	x := idlep.NewGet(s.l, s.t)
	s.gotten = x.P
	s.do(x)
	return x.P() != api.None
}

// env changes words of two memories alike, as a roll says.
type env struct {
	l    *layout.Layout
	a, b *cell.Mem
	roll uint64
	also func() // stores something, too, each other time
}

// below is a number below n.
func (e *env) below(n int) int {
	e.roll = e.roll*6364136223846793005 + 1442695040888963407
	return int(e.roll >> 33 % uint64(n))
}

// one is one of them.
func (e *env) one(l ...uint64) uint64 { return l[e.below(len(l))] }

// store stores in both.
func (e *env) store(at int, w uint64) {
	e.a.Store(99, at, w)
	e.b.Store(99, at, w)
}

// all goes on with a machine of each until it is done, or for long.
func (e *env) all(make func() flow.Stepper) {
	for _, m := range []*cell.Mem{e.a, e.b} {
		x := make()
		for n := 0; n < 500 && !x.Step(m); n++ {
		}
	}
}

// stores stores something somewhere, likely where it is looked at.
func (e *env) stores() {
	if e.also != nil && e.below(2) == 0 {
		e.also()
		return
	}
	p, g := e.below(e.l.Config().Procs), e.below(e.l.Config().Gs)
	w := uint64(g) + 1
	switch e.below(18) {
	case 0:
		e.store(e.l.Word(layout.FreeG), e.one(0, 0, w))
	case 1:
		e.store(e.l.Word(layout.Gs), e.one(0, 1, 2, uint64(g), uint64(e.l.Config().Gs), 1<<40))
	case 2:
		e.store(e.l.Word(layout.Spinning), e.one(0, 0, 1))
	case 3, 14, 15:
		e.all(func() flow.Stepper { return idlep.New(e.l, 99, p) })
	case 4, 16:
		e.store(e.l.Word(layout.IdleP), 0)
	case 5:
		e.store(e.l.Word(layout.Threads), e.one(0, 3, uint64(e.l.Config().Threads)))
	case 6:
		e.all(func() flow.Stepper { return globq.New(e.l, 99, []int{g}) })
	case 7:
		e.store(e.l.Proc(p, layout.Next), e.one(0, w))
	case 8:
		tail, _ := e.a.Peek(e.l.Proc(p, layout.Tail))
		e.store(e.l.Proc(p, layout.Head), (tail-e.one(0, 1, api.RingSize-1, api.RingSize))%(1<<32))
	case 9, 10:
		e.store(e.l.Proc(p, layout.Status), e.one(api.PIdle, api.PRunning, api.PSyscall, api.PSyscall))
	default:
		what := e.one(api.GIdle, api.GRunnable, api.GRunning, api.GWaiting, api.GWaiting, api.GWaiting, api.GSyscall, api.GDead)
		for g := range e.l.Config().Gs {
			e.store(e.l.G(g, layout.GStatus), what)
		}
	}
}

// arena is an arena of four programs.
func arena(t *testing.T, gs int) *goro.Arena {
	t.Helper()
	a, e := goro.New(code.Read([]uint64{25, 7, 3, 4, 7, 7, 6}), gs)
	if e != api.OK {
		t.Fatalf("arena: %v", e)
	}
	return a
}

// machine is a machine, and what it tells.
type machine struct {
	acts.Machine
	look func() seen
}

// subject is how a machine is made, and what it is held against.
type subject struct {
	make func(e *env, l *layout.Layout, a *goro.Arena, t, p int) (machine, func(s *reader))
	want []string // ways that it is to go, again and again
	also func(e *env)
}

// against holds a machine against its chapter, many times.
func against(t *testing.T, subject subject) {
	t.Helper()
	paths := map[string]int{}
	for seed := range 12000 {
		l, m := acts.Lay(t, api.Config{Procs: 1 + seed%3, Threads: 6, Gs: 3})
		other, _ := cell.Of(m.Words())
		e := &env{l: l, a: m, b: other, roll: uint64(seed)}
		if subject.also != nil {
			e.also = func() { subject.also(e) }
		}
		for range e.below(12) {
			e.stores()
		}
		hold(t, e, subject, paths)
		if t.Failed() {
			t.Fatalf("seed %d", seed)
		}
	}
	for _, path := range subject.want {
		if paths[path] < 20 {
			t.Errorf("%s: %d times", path, paths[path])
		}
	}
}

// hold holds a machine against its chapter, step by step, until both are done, or many steps went by.
func hold(t *testing.T, e *env, subject subject, paths map[string]int) {
	t.Helper()
	one, p, often := e.below(6), e.below(e.l.Config().Procs), 1+e.below(1+e.below(40))
	ours, theirs := arena(t, e.l.Config().Gs), arena(t, e.l.Config().Gs)
	for g := range ours.Len() {
		program := e.below(4)
		ours.Begin(g, program)
		theirs.Begin(g, program)
	}
	x, read := subject.make(e, e.l, ours, one, p)
	s := open(e.l, theirs, one, p, read)
	defer s.stop()
	for n := 0; n < 400 && !x.Done(); n++ {
		if e.below(often) == 0 {
			e.stores()
		}
		a, b := x.Step(e.a), s.step(e.b)
		if a != b || x.Done() != b || e.a.Clock() != e.b.Clock() || e.a.Last() != e.b.Last() {
			t.Fatalf("step %d: %v, %v, want %v, %v; path %s", n, a, e.a.Last(), b, e.b.Last(), s.path)
		}
		if got, want := x.look(), s.look(); !got.is(want) {
			t.Fatalf("step %d: told %v, want %v; path %s", n, got, want, s.path)
		}
		for g := range ours.Len() {
			if place(ours, g) != place(theirs, g) {
				t.Fatalf("step %d: %d is at %v, want %v", n, g, place(ours, g), place(theirs, g))
			}
		}
	}
	if x.Done() {
		paths[s.path]++
	}
	if !slices.Equal(e.a.Words(), e.b.Words()) {
		t.Fatalf("words part; path %s", s.path)
	}
}

// place is where a goroutine stands.
func place(a *goro.Arena, g int) [4]int {
	program, at, left, begun := a.Place(g)
	return [4]int{program, at, left, begun}
}
