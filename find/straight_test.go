package find_test

import (
	"iter"
	"slices"
	"testing"

	"turnspit/api"
	"turnspit/cell"
	"turnspit/draw"
	"turnspit/find"
	"turnspit/flow"
	"turnspit/globq"
	"turnspit/idlem"
	"turnspit/idlep"
	"turnspit/layout"
	"turnspit/lock"
	"turnspit/order"
	"turnspit/rest"
	"turnspit/rget"
	"turnspit/ring"
	"turnspit/steal"
)

// straight is the chapter read line by line, by one who waits ahead of each access until the next step; the layers below do in it what they do.
type straight struct {
	l     *layout.Layout
	m     *cell.Mem // of the step that goes on
	t     int
	draws *draw.Cursor
	seen
	asleep func(m *cell.Mem) bool
	path   string // how it was found, or how it went on last
	yield  func(struct{}) bool
	next   func() (struct{}, bool)
	stop   func()
	done   bool
}

// over is what ends a straight one that is not gone on with any more.
type over struct{}

// newStraight is one that waits ahead of its first access.
func newStraight(l *layout.Layout, t, p int, spins bool, draws *draw.Cursor) *straight {
	s := &straight{l: l, t: t, draws: draws, seen: seen{g: api.None, p: p, spins: spins}}
	s.next, s.stop = iter.Pull(func(yield func(struct{}) bool) {
		defer func() {
			if r := recover(); r != nil && r != any(over{}) {
				panic(r)
			}
		}()
		s.yield = yield
		for !s.pass() {
		}
	})
	s.next()
	return s
}

// step does a step.
func (s *straight) step(m *cell.Mem) bool {
	s.m = m
	if !s.done {
		_, more := s.next()
		s.done = !more
	}
	return s.done
}

// wait waits for the next step.
func (s *straight) wait() {
	if !s.yield(struct{}{}) {
		panic(over{})
	}
}

func (s *straight) load(at int) uint64 {
	s.wait()
	return s.m.Load(s.t, at)
}

func (s *straight) store(at int, w uint64) {
	s.wait()
	s.m.Store(s.t, at, w)
}

func (s *straight) word(w int) uint64       { return s.load(s.l.Word(w)) }
func (s *straight) proc(p, field int) int   { return s.l.Proc(p, field) }
func (s *straight) masked(q int) bool       { return idlep.Masked(s.word(layout.Mask), q) }
func (s *straight) lock()                   { s.do(lock.New(s.l, 0, s.t), func() {}) }
func (s *straight) unlock()                 { s.do(lock.NewRelease(s.l, 0, s.t), func() {}) }
func (s *straight) runs()                   { s.store(s.proc(s.p, layout.Status), api.PRunning) }
func (s *straight) needs()                  { s.store(s.l.Word(layout.Needs), 1) }
func (s *straight) anew(path string) bool   { s.path = path; return false }
func (s *straight) sleeps(m *cell.Mem) bool { return s.asleep != nil && s.asleep(m) }

// do goes on with a machine, and looks at it behind each step.
func (s *straight) do(x flow.Stepper, look func()) {
	for done := false; !done; {
		s.wait()
		done = x.Step(s.m)
		look()
	}
}

// has has found g, if that is one.
func (s *straight) has(g int, inherits bool, path string) bool {
	if g == api.None {
		return false
	}
	s.g, s.inherits, s.holds, s.path = g, inherits, []int{g}, path
	return true
}

// take takes, with the lock, and releases that.
func (s *straight) take(most int) int {
	x := globq.NewTake(s.l, s.t, s.p, most)
	s.do(x, func() { s.holds = x.Holds() })
	s.unlock()
	return x.G()
}

func (s *straight) spin() {
	x := rest.NewSpin(s.l, s.t)
	s.do(x, func() { s.spins = x.Counts() })
}

// get gets a processor.
func (s *straight) get() bool {
	x := idlep.NewGet(s.l, s.t)
	s.do(x, func() { s.p = x.P() })
	return s.p != api.None
}

// sleep goes on with a machine that sleeps, and tells a processor.
func (s *straight) sleep(x sleeper) {
	s.asleep = x.Asleep
	s.do(x, func() { s.p, s.spins = x.P(), x.Spins() })
	s.asleep = nil
}

// pass goes through the chapter once: true, if one was found; false, if it begins anew.
func (s *straight) pass() bool {
	return s.own() || s.steals() || s.leaves()
}

// own is 1. to 4.
func (s *straight) own() bool {
	fresh := s.load(s.proc(s.p, layout.Preempt)) != 0
	if fresh {
		s.store(s.proc(s.p, layout.Preempt), 0)
	}
	if s.load(s.proc(s.p, layout.Turns))%61 == 0 && s.word(layout.GlobSize) != 0 {
		s.lock()
		if s.has(s.take(1), false, "turn") {
			return true
		}
	}
	x := rget.New(s.l, s.t, s.p, fresh)
	s.do(x, func() {})
	if s.has(x.G(), x.Inherits(), "got") {
		return true
	}
	if s.word(layout.GlobSize) != 0 {
		s.lock()
		return s.has(s.take(0), false, "taken")
	}
	return false
}

// steals is 5. and 6.
func (s *straight) steals() bool {
	many := s.l.Config().Procs
	if !s.spins {
		spinning, idle := s.word(layout.Spinning), s.word(layout.IdlePs)
		if spinning >= 1<<31 || idle >= 1<<31 || int(2*spinning+idle) >= many {
			return false
		}
		s.spin()
	}
	for i := range 4 {
		for _, q := range order.Order(many, s.draws.Next()) {
			if q == s.p || s.masked(q) {
				continue
			}
			x := steal.New(s.l, s.t, s.p, q, i == 3)
			s.do(x, func() { s.holds = x.Holds() })
			if s.has(x.G(), false, "stolen") {
				return true
			}
		}
	}
	return false
}

// leaves is 7. to 10.
func (s *straight) leaves() bool {
	s.lock()
	if s.word(layout.GlobSize) != 0 {
		return s.has(s.take(0), false, "last") || s.anew("anew, nothing taken")
	}
	if !s.spins && s.word(layout.Needs) != 0 {
		s.spin()
		s.unlock()
		return s.anew("anew, needed")
	}
	s.store(s.proc(s.p, layout.Status), api.PIdle)
	put := idlep.New(s.l, s.t, s.p)
	s.do(put, func() { s.p = put.Holds() })
	if !s.spins {
		s.do(idlem.New(s.l, s.t, s.t), func() {})
		s.unlock()
		s.sleep(rest.New(s.l, s.t))
		return s.anew("anew, napped")
	}
	s.wait()
	s.m.Add(s.t, s.l.Word(layout.Spinning), 1<<32-1)
	s.spins = false
	s.unlock()
	return s.looksBehind()
}

// looksBehind is 8. to 10.
func (s *straight) looksBehind() bool {
	s.lock()
	switch {
	case s.word(layout.GlobSize) == 0:
		s.unlock()
	case s.get():
		s.spin()
		g := s.take(0)
		s.runs()
		return s.has(g, false, "behind") || s.anew("anew, nothing behind")
	default:
		s.needs()
		s.unlock()
	}
	for q := range s.l.Config().Procs {
		if s.masked(q) {
			continue
		}
		x := ring.New(s.l, s.t, q)
		s.do(x, func() {})
		if x.Empty() {
			continue
		}
		s.lock()
		if s.get() {
			s.spin()
			s.unlock()
			s.runs()
			return s.anew("anew, a ring")
		}
		s.needs()
		s.unlock()
		break
	}
	s.sleep(rest.NewRest(s.l, s.t))
	return s.anew("anew, rested")
}

// env changes words of two memories alike, as a roll says.
type env struct {
	l    *layout.Layout
	a, b *cell.Mem
	roll uint64
}

// below is a number below n.
func (e *env) below(n int) int {
	e.roll = e.roll*6364136223846793005 + 1442695040888963407
	return int(e.roll >> 33 % uint64(n))
}

// one is one of them.
func (e *env) one(l ...uint64) uint64 {
	return l[e.below(len(l))]
}

// store stores in both.
func (e *env) store(at int, w uint64) {
	e.a.Store(99, at, w)
	e.b.Store(99, at, w)
}

// all goes on with a machine of each until it is done.
func (e *env) all(make func() flow.Stepper) {
	for _, m := range []*cell.Mem{e.a, e.b} {
		x := make()
		for range 1000 {
			if x.Step(m) {
				break
			}
		}
	}
}

// stores stores something somewhere, likely where it is looked at.
func (e *env) stores() {
	p := e.below(e.l.Config().Procs)
	g := uint64(e.below(e.l.Config().Gs)) + 1
	switch e.below(16) {
	case 0:
		e.store(e.l.Word(layout.GlobSize), e.one(0, 0, 1, 2, 9))
	case 1:
		e.all(func() flow.Stepper { return globq.New(e.l, 99, []int{int(g - 1)}) })
	case 2:
		e.store(e.l.Word(layout.GlobHead), 0)
		e.store(e.l.Word(layout.GlobTail), 0)
	case 3:
		e.store(e.l.Word(layout.Needs), e.one(0, 1))
	case 4:
		e.store(e.l.Word(layout.Spinning), e.one(0, 0, 0, 1, 2, 1<<31-1, 1<<31, 1<<63))
	case 5:
		e.store(e.l.Word(layout.IdlePs), e.one(0, 0, 0, 1, 2, 3, 1<<31-1, 1<<31, 1<<63))
	case 6:
		e.all(func() flow.Stepper { return idlep.New(e.l, 99, p) })
	case 7:
		e.store(e.l.Word(layout.IdleP), 0)
	case 8:
		e.store(e.l.Word(layout.Mask), uint64(e.below(32)))
	case 9:
		e.store(e.l.Proc(p, layout.Preempt), e.one(0, 1, 2))
	case 10:
		e.store(e.l.Proc(p, layout.Turns), e.one(0, 1, 60, 61, 62, 122))
	case 11, 12:
		e.store(e.l.Proc(p, layout.Next), e.one(0, g))
	default:
		e.lays(p, g)
	}
}

// lays lays one into a ring, or lets that be empty.
func (e *env) lays(p int, g uint64) {
	tail, _ := e.a.Peek(e.l.Proc(p, layout.Tail))
	if e.below(3) == 0 {
		e.store(e.l.Proc(p, layout.Head), tail)
		return
	}
	e.store(e.l.Ring(p, tail), g)
	e.store(e.l.Proc(p, layout.Tail), (tail+1)%(1<<32))
}

// wakes wakes a thread, with something given.
func (e *env) wakes(t int) {
	e.store(e.l.Thread(t, layout.Given), e.one(0, 1, 2, 3, 1<<32+1, 1<<32+2, 1<<32+3))
	e.store(e.l.Thread(t, layout.Note), 1)
}

// against holds a Find against a straight one, step by step, until both are done, or some steps went by.
func against(t *testing.T, e *env, often int, paths map[string]int) {
	t.Helper()
	const who = 1
	p, spins, draws := e.below(e.l.Config().Procs), e.below(2) == 0, make([]uint64, e.below(9))
	if e.below(20) == 0 {
		p = api.None - e.below(2)
	}
	for i := range draws {
		draws[i] = uint64(e.below(1 << 20))
	}
	ours, theirs := draw.New(draws), draw.New(draws)
	x, s := find.New(e.l, who, p, spins, ours), newStraight(e.l, who, p, spins, theirs)
	defer s.stop()
	for n := 0; n < 400 && !x.Done(); n++ {
		if e.below(often) == 0 {
			e.stores()
		}
		if x.Asleep(e.a) && e.below(4) == 0 {
			e.wakes(who)
		}
		path := s.path
		a, b := x.Step(e.a), s.step(e.b)
		if s.path != path || b {
			paths[s.path]++
		}
		same := a == b && x.Done() == b && ours.Told() == theirs.Told() && e.a.Clock() == e.b.Clock() && e.a.Last() == e.b.Last()
		if got := look(x); !same || !got.is(s.seen) || x.Asleep(e.a) != s.sleeps(e.b) {
			t.Fatalf("step %d: %v, %v, %d accesses, asleep %v, want %v, %v, %d, %v; path %s", n, got, e.a.Last(), e.a.Clock(), x.Asleep(e.a), s.seen, e.b.Last(), e.b.Clock(), s.sleeps(e.b), s.path)
		}
	}
}

// Promises 21.1 and 21.2: whatever others do between any two steps, each step does the access that the chapter says, and tells what the chapter says.
func TestAgainstChapter(t *testing.T) {
	paths := map[string]int{}
	for seed := range 6000 {
		l, e := layout.Of(api.Config{Procs: 1 + seed%5, Threads: 6, Gs: 20})
		if e != api.OK {
			t.Fatalf("layout: %v", e)
		}
		a, _ := cell.New(l.Len())
		b, _ := cell.New(l.Len())
		x := &env{l: l, a: a, b: b, roll: uint64(seed)}
		for range x.below(12) {
			x.stores()
		}
		against(t, x, 2+x.below(200), paths)
		if t.Failed() {
			t.Fatalf("seed %d", seed)
		}
		if !slices.Equal(a.Words(), b.Words()) {
			t.Fatalf("seed %d: words part", seed)
		}
	}
	for _, path := range []string{
		"turn", "got", "taken", "stolen", "last", "behind",
		"anew, nothing taken", "anew, needed", "anew, napped", "anew, nothing behind", "anew, a ring", "anew, rested",
	} {
		if paths[path] < 20 {
			t.Errorf("%s: %d times", path, paths[path])
		}
	}
}
