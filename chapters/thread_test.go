package chapters

import (
	"slices"
	"testing"

	"turnspit/acts"
	"turnspit/api"
	"turnspit/cell"
	"turnspit/code"
	"turnspit/draw"
	"turnspit/find"
	"turnspit/goro"
	"turnspit/layout"
	"turnspit/ready"
	"turnspit/rest"
	"turnspit/spawn"
	"turnspit/sysc"
	"turnspit/thread"
	"turnspit/wake"
)

// life is a thread, read line by line.
type life struct {
	*reader
	draws *draw.Cursor
	paths map[string]int

	does, g  int // what it does, and the goroutine that runs, or is in the call
	p        int // the processor, where no machine tells it
	to       int // the goroutine that is to start
	counted  bool
	called   bool // is it in a call that did not return
	event    api.Event
	nap      *rest.Nap
	come     *rest.Rest
	find     *find.Find
	spawn    *spawn.Spawn
	ready    *ready.Ready
	give     *ready.Give
	out      *sysc.Out
	asleep   func(m *cell.Mem) bool
	awaiting func() (kind, other int) // the event that is to come, if it came
}

// tells are P, Spins, Counts, Holds and Hand, as what it does says.
func (s *life) tells() (p int, spins, counts bool, holds []int, hand int) {
	p, hand = s.p, api.None
	switch s.does {
	case thread.Naps:
		p, spins = s.nap.P(), s.nap.Spins()
	case thread.Rests:
		p, spins = s.come.P(), s.come.Spins()
	case thread.Finds:
		p, spins, holds = s.find.P(), s.find.Spins(), s.find.Holds()
	case thread.CountsOut:
		spins, holds, hand, counts = !s.counted, []int{s.to}, s.some.Holds(), s.some.Counts()
	case thread.Starts:
		if s.g == api.None {
			holds = []int{s.to}
		}
	case thread.Gives:
		holds, hand, counts = s.give.Holds(), s.give.Hand(), s.give.Counts()
	case thread.Spawns:
		holds, hand, counts = s.spawn.Holds(), s.spawn.Hand(), s.spawn.Counts()
	case thread.Readies:
		holds, hand, counts = s.ready.Holds(), s.ready.Hand(), s.ready.Counts()
	case thread.InCall:
		p = api.None
	case thread.ComesOut:
		p, holds = s.out.P(), s.out.Holds()
	}
	return p, spins, counts, holds, hand
}

// happens lets there be an event.
func (s *life) happens(kind, other int) {
	p, _, _, _, _ := s.tells()
	s.event = api.Event{Kind: kind, G: s.g, Other: other, Thread: s.t, Proc: p}
	s.paths[s.path]++
}

// look looks, behind each step, whether an event came that is awaited.
func (s *life) look() {
	if s.awaiting == nil {
		return
	}
	kind, other := s.awaiting()
	if kind == 0 {
		return
	}
	s.awaiting = nil
	s.happens(kind, other)
	switch kind {
	case api.EvYield, api.EvPreempt, api.EvPark, api.EvExit, api.EvQueue:
		s.g = api.None
	}
}

// if0 is a kind, if something is so.
func if0(is bool, kind int) int {
	if is {
		return kind
	}
	return 0
}

// lives is its life.
func (s *life) lives() {
	if s.t != 0 {
		s.nap = rest.New(s.l, s.t)
		s.does, s.asleep = thread.Naps, s.nap.Asleep
		s.do(s.nap)
		s.finds(s.nap.P(), s.nap.Spins())
	} else {
		s.finds(0, false)
	}
	for {
		s.runs()
	}
}

// finds finds a goroutine, and starts it.
func (s *life) finds(p int, spins bool) {
	x := find.New(s.l, s.t, p, spins, s.draws)
	s.find, s.does, s.asleep = x, thread.Finds, x.Asleep
	s.do(x)
	s.asleep, s.p, s.to = nil, x.P(), x.G()
	s.path = "found"
	if x.Spins() {
		s.does, s.counted, s.some = thread.CountsOut, false, nil
		s.access(api.Access{Kind: api.AcAdd, At: s.l.Word(layout.Spinning), New: 1<<32 - 1})
		s.counted = true
		s.some, s.path = wake.NewWake(s.l, s.t), "found, spun"
		s.do(s.some)
	}
	if x.Inherits() {
		s.path += ", inherits"
	}
	s.startsOne(x.Inherits())
}

// startsOne starts the goroutine that is to start.
func (s *life) startsOne(inherits bool) {
	s.does = thread.Starts
	s.what(s.to, api.GRunning)
	s.g = s.to
	s.happens(api.EvStart, api.None)
	if !inherits {
		s.add(s.l.Proc(s.p, layout.Turns))
		s.store(s.l.Proc(s.p, layout.Preempt), 0)
	}
}

// gives gives way, and then finds one.
func (s *life) gives(how, kind int, path string) {
	x := ready.NewGive(s.l, s.t, s.p, s.g, how)
	s.give, s.does, s.path = x, thread.Gives, path
	s.awaiting = func() (int, int) { return if0(x.Gave(), kind), api.None }
	s.do(x)
	s.finds(s.p, false)
}

// runs is one step of a goroutine, and all that comes of it.
func (s *life) runs() {
	s.does = thread.Runs
	if s.load(s.l.Proc(s.p, layout.Preempt)) != 0 {
		s.gives(ready.Preempted, api.EvPreempt, "preempted")
		return
	}
	switch x := s.a.Step(s.g); x.Kind {
	case api.InSpawn:
		s.spawns(x.Arg)
	case api.InYield:
		s.gives(ready.Yields, api.EvYield, "yields")
	case api.InPark:
		s.gives(ready.Parks, api.EvPark, "parks")
	case api.InReady:
		one := ready.New(s.l, s.t, s.p, x.Arg)
		s.ready, s.does, s.path = one, thread.Readies, "readies"
		s.awaiting = func() (int, int) { return if0(one.G() != api.None, api.EvReady), one.G() }
		s.do(one)
		if s.awaiting != nil {
			s.paths["readies none"]++
		}
		s.awaiting = nil
	case api.InSyscall:
		s.calls()
	case api.InExit:
		end := spawn.NewEnd(s.l, s.t, s.g)
		s.does, s.path = thread.Ends, "ends"
		s.awaiting = func() (int, int) { return if0(end.Ended(), api.EvExit), api.None }
		s.do(end)
		s.finds(s.p, false)
	}
}

// spawns spawns another one.
func (s *life) spawns(program int) {
	x := spawn.New(s.l, s.a, s.t, s.p, program)
	s.spawn, s.does, s.path = x, thread.Spawns, "spawns"
	s.awaiting = func() (int, int) {
		if x.Refused() {
			s.path = "refused"
			return api.EvRefused, api.None
		}
		return if0(x.G() != api.None, api.EvSpawn), x.G()
	}
	s.do(x)
}

// inCall is a machine that does nothing, until a call returned; from then on it is the one that comes out.
type inCall struct{ *life }

func (x inCall) Step(m *cell.Mem) bool {
	if x.called {
		return false
	}
	return x.out.Step(m)
}

// calls goes in, is in a call, and comes out.
func (s *life) calls() {
	in := sysc.New(s.l, s.t, s.p, s.g)
	s.does, s.path = thread.GoesIn, "goes in"
	s.awaiting = func() (int, int) { return if0(in.Went(), api.EvEnter), api.None }
	s.do(in)
	out := sysc.NewOut(s.l, s.t, s.p, s.g)
	s.does, s.called, s.out = thread.InCall, true, out
	s.to = s.g
	s.awaiting = func() (int, int) {
		switch {
		case out.Runs():
			s.path = "returns"
			if out.P() != s.p {
				s.path = "returns with another one"
			}
			return api.EvReturn, api.None
		case out.Came():
			s.path = "does not run"
			return api.EvQueue, api.None
		}
		return 0, 0
	}
	s.do(inCall{s})
	s.p = out.P()
	if out.Runs() {
		return
	}
	if s.p != api.None {
		s.path = "starts behind a call"
		s.startsOne(false)
		return
	}
	s.come = rest.NewRest(s.l, s.t)
	s.does, s.asleep = thread.Rests, s.come.Asleep
	s.do(s.come)
	s.paths["rested"]++
	s.finds(s.come.P(), s.come.Spins())
}

// returns lets a call return: from here on it comes out.
func (s *life) returns() bool {
	is := s.called
	if is {
		s.called, s.does = false, thread.ComesOut
	}
	return is
}

// held holds what a thread tells against what it should.
func (s *life) held(t *testing.T, x *thread.Thread, m, other *cell.Mem) {
	t.Helper()
	p, spins, counts, holds, hand := s.tells()
	if x.Does() != s.does || x.G() != s.g || x.P() != p || x.Spins() != spins || x.Counts() != counts || !slices.Equal(x.Holds(), holds) || x.Hand() != hand {
		t.Fatalf("does %d, told %d, %d, %v, %v, %v, %d, want %d: %d, %d, %v, %v, %v, %d", x.Does(), x.G(), x.P(), x.Spins(), x.Counts(), x.Holds(), x.Hand(), s.does, s.g, p, spins, counts, holds, hand)
	}
	asleep := s.asleep != nil && s.asleep(other)
	if x.Blocked(m) != (asleep || s.called) {
		t.Fatalf("does %d, blocked %v, want %v, %v", s.does, x.Blocked(m), asleep, s.called)
	}
}

// made is a thread, and its life, at the beginning of both.
func made(t *testing.T, e *env, paths map[string]int) (*thread.Thread, *life) {
	t.Helper()
	var words, draws []uint64
	for range 30 {
		words = append(words, e.one(0, 1, 9, 2, 10, 18, 3, 4, 5, 13, 21, 5, 6, 6, 7))
		draws = append(draws, uint64(e.below(1<<20)))
	}
	var arenas [2]*goro.Arena
	for i := range arenas {
		arenas[i], _ = goro.New(code.Read(words), e.l.Config().Gs)
		for g := range e.l.Config().Gs {
			arenas[i].Begin(g, g%arenas[i].Code().Len())
		}
	}
	who := e.below(3)
	x := thread.New(e.l, arenas[0], who, draw.New(draws))
	s := &life{draws: draw.New(draws), paths: paths, g: api.None}
	s.reader = open(e.l, arenas[1], who, 0, func(r *reader) {
		s.reader = r
		s.lives()
	})
	s.each = s.look
	return x, s
}

// holdThread holds a thread against the chapter, step by step.
func holdThread(t *testing.T, e *env, paths map[string]int) {
	t.Helper()
	x, s := made(t, e, paths)
	defer s.stop()
	often := 1 + e.below(1+e.below(60))
	s.held(t, x, e.a, e.b)
	for n := range 600 {
		if e.below(often) == 0 {
			e.stores()
		}
		if x.Blocked(e.a) && e.below(3) == 0 && s.does != thread.InCall {
			e.store(e.l.Thread(s.t, layout.Given), e.one(1, 2, 3, 1<<32+1, 1<<32+2, 0))
			e.store(e.l.Thread(s.t, layout.Note), 1)
		}
		if e.below(9) == 0 {
			want := api.ErrRule
			if s.returns() {
				want = api.OK
			}
			if got := x.Return(); got != want || x.Return() != api.ErrRule {
				t.Fatalf("step %d: Return %v, want %v", n, got, want)
			}
		}
		s.held(t, x, e.a, e.b)
		clock := e.b.Clock()
		s.event = api.Event{}
		did, over := x.Step(e.a), s.step(e.b)
		if did != (e.b.Clock() != clock) || over || e.a.Clock() != e.b.Clock() || e.a.Last() != e.b.Last() {
			t.Fatalf("step %d: %v, %v, want %v; path %s", n, did, e.a.Last(), e.b.Last(), s.path)
		}
		if event, told := x.Event(); event != s.event || told != (s.event.Kind != 0) {
			t.Fatalf("step %d: %v, %v, want %v; path %s", n, event, told, s.event, s.path)
		}
		s.held(t, x, e.a, e.b)
	}
	if !slices.Equal(e.a.Words(), e.b.Words()) {
		t.Fatalf("words part")
	}
}

// storesForThread stores something where a thread looks.
func storesForThread(e *env) {
	p := e.below(e.l.Config().Procs)
	switch e.below(6) {
	case 0:
		e.store(e.l.Proc(p, layout.Preempt), e.one(0, 1, 1<<40))
	case 1:
		e.store(e.l.Proc(p, layout.Status), api.PIdle)
	case 2:
		e.store(e.l.Proc(p, layout.Next), uint64(e.below(e.l.Config().Gs))+1)
	default:
		storesMore(e)
	}
}

// Promises 27.1 and 27.2: a thread, line by line, whatever others store between any two steps.
func TestThread(t *testing.T) {
	paths := map[string]int{}
	for seed := range 4000 {
		l, m := acts.Lay(t, api.Config{Procs: 1 + seed%3, Threads: 6, Gs: 3})
		other, _ := cell.Of(m.Words())
		e := &env{l: l, a: m, b: other, roll: uint64(seed)}
		e.also = func() { storesForThread(e) }
		for range e.below(12) {
			e.stores()
		}
		holdThread(t, e, paths)
		if t.Failed() {
			t.Fatalf("seed %d", seed)
		}
	}
	for _, path := range []string{
		"found", "found, inherits", "found, spun", "found, spun, inherits", "preempted", "yields", "parks", "readies", "readies none", "spawns", "refused", "ends",
		"goes in", "returns", "returns with another one", "does not run", "starts behind a call", "rested",
	} {
		if paths[path] < 20 {
			t.Errorf("%s: %d times", path, paths[path])
		}
	}
}
