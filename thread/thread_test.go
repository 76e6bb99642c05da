package thread_test

import (
	"math"
	"slices"
	"testing"

	"turnspit/acts"
	"turnspit/api"
	"turnspit/cell"
	"turnspit/code"
	"turnspit/draw"
	"turnspit/find"
	"turnspit/goro"
	"turnspit/layout"
	"turnspit/thread"
)

const (
	procs   = 3
	threads = 9
	gs      = 20
	round   = 1 << 32
	less    = round - 1
	start   = round - 1 // where rings begin and end at first
)

// seen is what a thread tells.
type seen struct {
	does, g, p int
	spins      bool
	counts     bool
	holds      []int
	hand       int
	blocked    bool
}

// is tells whether both are the same.
func (a seen) is(b seen) bool {
	return a.does == b.does && a.g == b.g && a.p == b.p && a.spins == b.spins && a.counts == b.counts && slices.Equal(a.holds, b.holds) && a.hand == b.hand && a.blocked == b.blocked
}

// look is what a thread tells right now.
func look(x *thread.Thread, m *cell.Mem) seen {
	return seen{x.Does(), x.G(), x.P(), x.Spins(), x.Counts(), x.Holds(), x.Hand(), x.Blocked(m)}
}

// trial is a thread on its way, and what it is to tell from now on.
type trial struct {
	*testing.T
	l    *layout.Layout
	m    *cell.Mem
	a    *goro.Arena
	t    int
	x    *thread.Thread
	want seen
}

// lay is a layout, and its memory: rings are empty, and begin and end just ahead of where they go round, as do the turns at the locks; their places, and goroutines' links, are stale. All processors run; all goroutines were had, and are dead; all threads were had.
func lay(t *testing.T) (*layout.Layout, *cell.Mem) {
	t.Helper()
	l, m := acts.Lay(t, api.Config{Procs: procs, Threads: threads, Gs: gs})
	for p := range procs {
		m.Store(99, l.Proc(p, layout.Head), start)
		m.Store(99, l.Proc(p, layout.Tail), start)
		m.Store(99, l.Proc(p, layout.Turns), 7)
		m.Store(99, l.Proc(p, layout.Status), api.PRunning)
		for i := range uint64(api.RingSize) {
			m.Store(99, l.Ring(p, i), 9)
		}
	}
	for g := range gs {
		m.Store(99, l.G(g, layout.GStatus), api.GDead)
		m.Store(99, l.G(g, layout.GLink), 9)
	}
	for lock := range 2 {
		m.Store(99, l.Ticket(lock), round-1)
		m.Store(99, l.Serving(lock), round-1)
	}
	m.Store(99, l.Word(layout.Threads), threads)
	m.Store(99, l.Word(layout.Gs), gs)
	return l, m
}

// arena is an arena of the programs of words, whose goroutines began, one with each program, and the others with the last one.
func arena(t *testing.T, words ...uint64) *goro.Arena {
	t.Helper()
	a, e := goro.New(code.Read(words), gs)
	if e != api.OK {
		t.Fatalf("arena: %v", e)
	}
	for g := range gs {
		a.Begin(g, min(g, a.Code().Len()-1))
	}
	return a
}

// begin is a thread at its beginning.
func begin(t *testing.T, l *layout.Layout, m *cell.Mem, a *goro.Arena, one int, draws *draw.Cursor) *trial {
	t.Helper()
	y := &trial{T: t, l: l, m: m, a: a, t: one, x: thread.New(l, a, one, draws), want: seen{does: thread.Naps, g: api.None, p: api.None, hand: api.None}}
	if one == 0 {
		y.want.does, y.want.p = thread.Finds, 0
	}
	y.tells(api.Event{})
	return y
}

// tells holds what it tells against what it is to tell, with the event of the last step.
func (y *trial) tells(e api.Event) {
	y.Helper()
	for range 2 {
		got := look(y.x, y.m)
		if !got.is(y.want) {
			y.Errorf("told %v, want %v", got, y.want)
		}
		for i := range got.holds { // an answer that is changed changes nothing
			got.holds[i] = -9
		}
		if event, told := y.x.Event(); event != e || told != (e != api.Event{}) {
			y.Errorf("event %v, %v, want %v", event, told, e)
		}
	}
	if y.want.does == thread.InCall {
		return
	}
	if e := y.x.Return(); e != api.ErrRule {
		y.Errorf("Return, in no call: %v", e)
	}
}

// living is a thread, as a machine that is never done.
type living struct{ y *trial }

func (x living) Done() bool { return false }
func (x living) Step(m *cell.Mem) bool {
	if !x.y.x.Step(m) {
		x.y.Errorf("a step without an access")
	}
	return false
}

// goes does a step that is to do this access, and to have an event, or none.
func (y *trial) goes(a acts.Act, e api.Event) {
	y.Helper()
	acts.Step(y, y.m, living{y}, y.t, a, false)
	y.tells(e)
	if y.Failed() {
		y.FailNow()
	}
}

// plain does steps that are to do these accesses, without an event.
func (y *trial) plain(list ...acts.Act) {
	y.Helper()
	for _, a := range list {
		y.goes(a, api.Event{})
	}
}

// same goes on as another machine does; behind each step tells is what it is to tell then, and the event.
func (y *trial) same(x acts.Machine, tells func(done bool) api.Event) {
	y.Helper()
	acts.Same(y, y.m, living{y}, x, false, func() {
		y.Helper()
		y.tells(tells(x.Done()))
		if y.Failed() {
			y.FailNow()
		}
	})
}

// event is an event of the goroutine that runs, by the processor that the thread has.
func (y *trial) event(kind, other int) api.Event {
	return api.Event{Kind: kind, G: y.want.g, Other: other, Thread: y.t, Proc: y.want.p}
}

// store stores a word by another one.
func (y *trial) store(at int, w uint64) { y.m.Store(99, at, w) }

// word is the place of one of the scheduler's words, proc that of one of the processor's, g that of a goroutine's Status.
func (y *trial) word(w int) int     { return y.l.Word(w) }
func (y *trial) proc(field int) int { return y.l.Proc(y.want.p, field) }
func (y *trial) g(g int) int        { return y.l.G(g, layout.GStatus) }

// is is what stands at a place.
func (y *trial) is(at int) uint64 {
	w, _ := y.m.Peek(at)
	return w
}

// fills lets a ring have some goroutines, which are runnable, and a next one (api.None: none).
func fills(l *layout.Layout, m *cell.Mem, p, next int, list ...int) {
	m.Store(99, l.Proc(p, layout.Next), uint64(next+1))
	for i, g := range list {
		m.Store(99, l.Ring(p, uint64(start+i)), uint64(g)+1)
		m.Store(99, l.G(g, layout.GStatus), api.GRunnable)
	}
	m.Store(99, l.Proc(p, layout.Tail), uint64(start+len(list))%round)
}

// finds finds a goroutine, as layer 21 does with the processor that it has: what it is to do behind that, is.
func (y *trial) finds(draws *draw.Cursor, is int) *find.Find {
	y.Helper()
	x := find.New(y.l, y.t, y.want.p, y.want.spins, draws)
	y.same(x, func(done bool) api.Event {
		if done {
			y.want.does = is
		}
		y.want.p, y.want.spins, y.want.holds, y.want.blocked = x.P(), x.Spins(), x.Holds(), x.Asleep(y.m)
		return api.Event{}
	})
	return x
}

// starts starts the goroutine that was found.
func (y *trial) starts(g int, inherits bool) {
	y.Helper()
	y.want.holds, y.want.g = nil, g
	if inherits {
		y.want.does = thread.Runs
	}
	y.goes(acts.Store(y.g(g), api.GRunning), y.event(api.EvStart, api.None))
	if inherits {
		return
	}
	y.plain(acts.Add(y.proc(layout.Turns), 1))
	y.want.does = thread.Runs
	y.plain(acts.Store(y.proc(layout.Preempt), 0))
}

// running is thread 0, which lets a goroutine run that began with the first one of some programs: what it is to obey comes next.
func running(t *testing.T, words ...uint64) *trial {
	t.Helper()
	return runningSo(t, false, words...)
}

// runningSo is one whose goroutine inherits, or not.
func runningSo(t *testing.T, inherits bool, words ...uint64) *trial {
	t.Helper()
	l, m := lay(t)
	if inherits {
		fills(l, m, 0, 0)
	} else {
		fills(l, m, 0, api.None, 0)
	}
	m.Store(99, l.Word(layout.Spinning), 1) // somebody looks for work: nobody is woken
	y := begin(t, l, m, arena(t, words...), 0, nil)
	y.finds(nil, thread.Starts)
	y.starts(0, inherits)
	return y
}

// obeys does a step of the goroutine, behind which it does something.
func (y *trial) obeys(does int) {
	y.Helper()
	y.want.does = does
	y.plain(acts.Load(y.proc(layout.Preempt)))
}

// Threads that there are not: no one, one that nobody made.
func TestNoThread(t *testing.T) {
	_, m := lay(t)
	before := m.Words()
	var none *thread.Thread
	for _, x := range []*thread.Thread{none, {}} {
		clock := m.Clock()
		for range 3 {
			if got := look(x, m); !got.is(seen{g: api.None, p: api.None, hand: api.None}) || x.Step(m) || m.Clock() != clock {
				t.Errorf("told %v", got)
			}
			if e, told := x.Event(); told || e != (api.Event{}) {
				t.Errorf("an event: %v", e)
			}
			x.Blocked(nil)
		}
	}
	if e := none.Return(); e != api.ErrArg {
		t.Errorf("Return of none: %v", e)
	}
	if e := (&thread.Thread{}).Return(); e != api.ErrRule {
		t.Errorf("Return of one that nobody made: %v", e)
	}
	acts.Changed(t, m, before, nil)
}

// What a thread does is counted, in the chapter's order.
func TestDoesNumbers(t *testing.T) {
	for i, n := range []int{
		thread.Naps, thread.Finds, thread.CountsOut, thread.Starts, thread.Runs, thread.Gives, thread.Spawns, thread.Readies, thread.GoesIn, thread.InCall, thread.ComesOut, thread.Ends, thread.Rests,
	} {
		if n != i {
			t.Errorf("%d is %d", i, n)
		}
	}
}

// A thread without a memory, without a layout, an arena and draws, and of a memory without words, does not panic.
func TestNoMemoryNoLayoutNoWords(t *testing.T) {
	l, m := lay(t)
	y := begin(t, l, m, arena(t), 0, draw.New(nil))
	for range 3 {
		if y.x.Step(nil) {
			t.Errorf("a step without a memory")
		}
		y.tells(api.Event{})
		y.x.Blocked(nil)
	}
	empty, _ := cell.New(0)
	for one := range 2 {
		for _, x := range []*thread.Thread{thread.New(nil, nil, one, nil), thread.New(l, nil, one, nil)} {
			for n := range 200 {
				x.Step([]*cell.Mem{m, empty}[n%2])
				x.Return()
				look(x, m)
			}
		}
	}
}

// Promise 27.1: the first thread, 0, finds a goroutine with processor 0, whatever is given, and whether it is woken or not; with the draws, which are shared.
func TestFirstThread(t *testing.T) {
	for _, words := range [][]uint64{nil, {8, 3, 6, 2, 5, 9, 1, 77, 4}} {
		l, m := lay(t)
		m.Store(99, l.Thread(0, layout.Given), 3)
		m.Store(99, l.Thread(0, layout.Note), 1)
		for q := 1; q < procs; q++ {
			fills(l, m, q, api.None, q, 10+q)
		}
		ours, theirs := draw.New(words), draw.New(words)
		y := begin(t, l, m, arena(t), 0, ours)
		y.finds(theirs, thread.CountsOut)
		if ours.Told() != theirs.Told() || ours.Told() == 0 || y.m.Last().Who != 0 {
			t.Errorf("draws: %d were told, want %d", ours.Told(), theirs.Told())
		}
	}
}

// Promises 27.1 and 27.2: all others nap, and are blocked, until they are given a processor: from the step on at which they take it they have it, and spin, if it is given so; then they find one with that.
func TestNaps(t *testing.T) {
	for one := 1; one < threads; one++ {
		for p := range procs {
			for _, spins := range []bool{false, true} {
				l, m := lay(t)
				fills(l, m, p, api.None, 5, 6)
				y := begin(t, l, m, arena(t), one, nil)
				note, given := l.Thread(one, layout.Note), l.Thread(one, layout.Given)
				y.want.blocked = true
				y.plain(acts.Load(note))
				y.stays()
				w := uint64(p) + 1
				if spins {
					w += round
				}
				y.store(given, w)
				y.stays()
				y.store(note, 1)
				y.want.blocked = false
				y.tells(api.Event{})
				y.plain(acts.Load(note), acts.Store(note, 0), acts.Load(given))
				y.want.p, y.want.spins = p, spins
				y.plain(acts.Store(given, 0))
				y.want.does = thread.Finds
				y.plain(acts.Store(y.proc(layout.Status), api.PRunning))
				if spins {
					y.finds(nil, thread.CountsOut)
				} else {
					y.finds(nil, thread.Starts)
				}
				if !slices.Equal(y.want.holds, []int{5}) || y.want.p != p || y.want.spins != spins || m.Bad() != 0 {
					t.Errorf("found %v; bad %d", y.want, m.Bad())
				}
			}
		}
	}
}

// stays does steps that are to do nothing, as it is blocked.
func (y *trial) stays() {
	y.Helper()
	clock := y.m.Clock()
	for range 5 {
		if y.x.Step(y.m) || y.m.Clock() != clock {
			y.Errorf("a step of one that is blocked")
		}
		y.tells(api.Event{})
	}
}

// Promise 27.1: a thread that there is not naps at no place, for ever.
func TestNoSuchThread(t *testing.T) {
	for _, one := range []int{math.MinInt, -1, threads, 1 << 32, math.MaxInt} {
		l, m := lay(t)
		before := m.Words()
		y := begin(t, l, m, arena(t), one, nil)
		y.want.blocked = true
		y.plain(acts.Load(api.None))
		y.stays()
		acts.Changed(t, m, before, nil)
	}
}

// Promise 27.2: a thread that finds none naps within that: it is blocked, has no processor, and goes on with what it is given.
func TestNapsWithinFind(t *testing.T) {
	l, m := lay(t)
	m.Store(99, l.Word(layout.Spinning), 9) // enough spin
	y := begin(t, l, m, arena(t), 0, nil)
	for n := 0; !y.x.Blocked(m); n++ {
		if n > 200 {
			t.Fatalf("it does not nap")
		}
		y.x.Step(m)
	}
	y.want.p, y.want.blocked = api.None, true
	y.stays()
	fills(l, m, 2, 4)
	m.Store(99, l.Thread(0, layout.Given), 3)
	m.Store(99, l.Thread(0, layout.Note), 1)
	for n := 0; y.x.Does() == thread.Finds && n < 200; n++ {
		y.x.Step(m)
	}
	y.want.does, y.want.p, y.want.blocked, y.want.holds = thread.Starts, 2, false, []int{4}
	y.tells(api.Event{})
	y.starts(4, true)
}

// Promise 27.1: the threads share the draws: what one was told another one is not.
func TestDrawsAreShared(t *testing.T) {
	l, m := lay(t)
	words := []uint64{5, 1, 4, 2, 9, 3, 8, 7, 6, 11, 13}
	ours, theirs := draw.New(words), draw.New(words)
	m.Store(99, l.Thread(1, layout.Given), 2+round)
	m.Store(99, l.Thread(1, layout.Note), 1)
	xs := []*thread.Thread{thread.New(l, arena(t), 0, ours), thread.New(l, arena(t), 1, ours)}
	for range 5 { // it naps, and is given processor 1
		xs[1].Step(m)
	}
	other, _ := cell.Of(m.Words())
	ys := []*find.Find{find.New(l, 0, 0, false, theirs), find.New(l, 1, 1, true, theirs)}
	for n := range 200 {
		i := n / 3 % 2
		xs[i].Step(m)
		ys[i].Step(other)
		if ours.Told() != theirs.Told() || m.Last() != other.Last() {
			t.Fatalf("step %d: %d were told, want %d; %v, want %v", n, ours.Told(), theirs.Told(), m.Last(), other.Last())
		}
	}
	if ours.Told() < 8 {
		t.Errorf("%d were told", ours.Told())
	}
}

// The chapter's example: a thread alone, whose processor's ring has a goroutine of InYield.
func TestExample(t *testing.T) {
	l, m := acts.Lay(t, api.Config{Procs: 1, Threads: 1, Gs: 1})
	m.Store(99, l.Word(layout.Threads), 1)
	m.Store(99, l.Word(layout.Gs), 1)
	m.Store(99, l.Proc(0, layout.Status), api.PRunning)
	m.Store(99, l.Ring(0, 0), 1)
	m.Store(99, l.Proc(0, layout.Tail), 1)
	m.Store(99, l.G(0, layout.GStatus), api.GRunnable)
	a, _ := goro.New(code.Read([]uint64{3}), 1)
	a.Begin(0, 0)
	x := thread.New(l, a, 0, draw.New(nil))
	var kinds []int
	for range 300 {
		x.Step(m)
		if e, told := x.Event(); told {
			kinds = append(kinds, e.Kind)
			if e != (api.Event{Kind: e.Kind, Other: api.None}) {
				t.Errorf("event: %v", e)
			}
		}
	}
	if !slices.Equal(kinds, []int{api.EvStart, api.EvYield, api.EvStart, api.EvExit}) || !x.Blocked(m) || m.Bad() != 0 {
		t.Errorf("events %v, blocked %v, bad %d", kinds, x.Blocked(m), m.Bad())
	}
}
