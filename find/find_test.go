package find_test

import (
	"math"
	"slices"
	"testing"

	"turnspit/acts"
	"turnspit/api"
	"turnspit/cell"
	"turnspit/draw"
	"turnspit/find"
	"turnspit/globq"
	"turnspit/idlep"
	"turnspit/layout"
)

const (
	threads = 70 // how many the config has
	gs      = 400
	round   = 1 << 32
	less    = round - 1
	start   = round - 2 // where rings begin and end at first
)

// sleeper is a machine that sleeps, and tells a processor then.
type sleeper interface {
	acts.Machine
	Asleep(m *cell.Mem) bool
	P() int
	Spins() bool
}

// seen is what a Find tells, but whether it is asleep.
type seen struct {
	g        int
	inherits bool
	p        int
	spins    bool
	holds    []int
}

// look is what it tells right now.
func look(x *find.Find) seen {
	return seen{x.G(), x.Inherits(), x.P(), x.Spins(), x.Holds()}
}

// is tells whether both are the same.
func (a seen) is(b seen) bool {
	return a.g == b.g && a.inherits == b.inherits && a.p == b.p && a.spins == b.spins && slices.Equal(a.holds, b.holds)
}

// lay is a layout, and its memory, whose words are stale, but those that tell of idle ones, of the queue, and of rings, which are empty: 0, and rings' ends just ahead of where they go round, as is the turn at the lock; no processor is to look at the queue first.
func lay(t *testing.T, procs int) (*layout.Layout, *cell.Mem) {
	t.Helper()
	l, m := acts.Lay(t, api.Config{Procs: procs, Threads: threads, Gs: gs})
	for at := range l.Len() {
		m.Store(99, at, 7)
	}
	for w := layout.GlobHead; w <= layout.Mask; w++ {
		m.Store(99, l.Word(w), 0)
	}
	for p := range procs {
		for field, w := range map[int]uint64{layout.Head: start, layout.Tail: start, layout.Next: 0, layout.Turns: 1, layout.Preempt: 0} {
			m.Store(99, l.Proc(p, field), w)
		}
	}
	for one := range threads {
		m.Store(99, l.Thread(one, layout.Note), 0)
		m.Store(99, l.Thread(one, layout.Given), 0)
	}
	m.Store(99, l.Ticket(0), round-1)
	m.Store(99, l.Serving(0), round-1)
	return l, m
}

// queue puts goroutines behind the global queue.
func queue(t *testing.T, l *layout.Layout, m *cell.Mem, list ...int) {
	t.Helper()
	acts.All(t, m, globq.New(l, 99, list))
}

// fill lays goroutines into a ring, and lets one be the next one (None: none).
func fill(l *layout.Layout, m *cell.Mem, p, next int, list ...int) {
	tail, _ := m.Peek(l.Proc(p, layout.Tail))
	for _, g := range list {
		m.Store(99, l.Ring(p, tail), uint64(g)+1)
		tail = (tail + 1) % round
	}
	m.Store(99, l.Proc(p, layout.Tail), tail)
	m.Store(99, l.Proc(p, layout.Next), uint64(next+1))
}

// idle lets processors lie on the list, one by one.
func idle(t *testing.T, l *layout.Layout, m *cell.Mem, ps ...int) {
	t.Helper()
	for _, p := range ps {
		acts.All(t, m, idlep.New(l, 99, p))
	}
}

// trial is a Find on its way, and what it is to tell from now on.
type trial struct {
	*testing.T
	l      *layout.Layout
	m      *cell.Mem
	who    int
	draws  *draw.Cursor
	x      *find.Find
	want   seen
	asleep bool
}

// begin is a Find at its beginning.
func begin(t *testing.T, l *layout.Layout, m *cell.Mem, who, p int, spins bool, draws ...uint64) *trial {
	t.Helper()
	y := &trial{T: t, l: l, m: m, who: who, draws: draw.New(draws), want: seen{g: api.None, p: p, spins: spins}}
	y.x = find.New(l, who, p, spins, y.draws)
	y.tells()
	if y.draws.Told() != 0 {
		t.Errorf("%d draws told at the beginning", y.draws.Told())
	}
	return y
}

// tells holds what it tells against what it is to tell.
func (y *trial) tells() {
	y.Helper()
	for range 2 {
		got := look(y.x)
		if !got.is(y.want) || y.x.Asleep(y.m) != y.asleep {
			y.Errorf("told %v, asleep %v, want %v, %v", got, y.x.Asleep(y.m), y.want, y.asleep)
		}
		for i := range got.holds { // an answer that is changed changes nothing
			got.holds[i] = -9
		}
	}
}

// goes does steps that are to do these accesses, none of which ends it.
func (y *trial) goes(list ...acts.Act) {
	y.Helper()
	for i, a := range list {
		acts.Step(y, y.m, y.x, y.who, a, false)
		y.tells()
		if y.Failed() {
			y.Fatalf("step %d of %d", i, len(list))
		}
	}
}

// finds does the last step, by which it has found g; those behind it do nothing.
func (y *trial) finds(g int, inherits bool, a acts.Act) {
	y.Helper()
	acts.Step(y, y.m, y.x, y.who, a, true)
	y.want.g, y.want.inherits, y.want.holds = g, inherits, []int{g}
	y.tells()
	acts.Rests(y, y.m, y.x)
	y.tells()
}

// told holds how many draws were told.
func (y *trial) told(n int) {
	y.Helper()
	if y.draws.Told() != n {
		y.Errorf("%d draws told, want %d", y.draws.Told(), n)
	}
}

// word is the place of one of the scheduler's words, proc of one of those of the processor that it has.
func (y *trial) word(w int) int     { return y.l.Word(w) }
func (y *trial) proc(field int) int { return y.l.Proc(y.want.p, field) }

// is is what stands at a place.
func (y *trial) is(at int) uint64 {
	w, _ := y.m.Peek(at)
	return w
}

// begins does 1. and 2., where Preempt is 0, and the queue is not looked at first.
func (y *trial) begins() {
	y.Helper()
	y.goes(acts.Load(y.proc(layout.Preempt)), acts.Load(y.proc(layout.Turns)))
}

// hasNone does 1. to 4., where there is nothing.
func (y *trial) hasNone() {
	y.Helper()
	y.begins()
	y.goes(acts.Load(y.proc(layout.Next)), acts.Load(y.proc(layout.Head)), acts.Load(y.proc(layout.Tail)), acts.Load(y.word(layout.GlobSize)))
}

// considers does 5., where it does not spin then.
func (y *trial) considers() {
	y.Helper()
	y.goes(acts.Load(y.word(layout.Spinning)), acts.Load(y.word(layout.IdlePs)))
}

// spins does a Spin.
func (y *trial) spins() {
	y.Helper()
	y.want.spins = true
	y.goes(acts.Add(y.word(layout.Spinning), 1), acts.Store(y.word(layout.Needs), 0))
}

// visits looks at others' rings, one by one, which are empty, at last or not.
func (y *trial) visits(last bool, qs ...int) {
	y.Helper()
	for _, q := range qs {
		y.goes(acts.Load(y.word(layout.Mask)), acts.Load(y.proc(layout.Tail)), acts.Load(y.l.Proc(q, layout.Head)), acts.Load(y.l.Proc(q, layout.Tail)))
		if last {
			y.goes(acts.Load(y.l.Proc(q, layout.Next)))
		}
	}
}

// rounds does 6., where there is nothing, of draws that are used up: the order is 0, 1, and so on.
func (y *trial) rounds() {
	y.Helper()
	var others []int
	for q := range y.l.Config().Procs {
		if q != y.want.p {
			others = append(others, q)
		}
	}
	for i := range api.Rounds {
		y.visits(i == api.Rounds-1, others...)
	}
}

// acquires has the scheduler's lock, releases gives it back.
func (y *trial) acquires() {
	y.Helper()
	y.goes(acts.Add(y.l.Ticket(0), 1), acts.Load(y.l.Serving(0)), acts.Store(y.l.Owner(0), uint64(y.who)+1))
}

func (y *trial) releases() {
	y.Helper()
	y.goes(acts.Store(y.l.Owner(0), 0), acts.Add(y.l.Serving(0), 1))
}

// pulls pulls one out of the global queue, which is in the hand then, with those that are.
func (y *trial) pulls(g int) {
	y.Helper()
	link := y.is(y.l.G(g, layout.GLink))
	y.goes(acts.Load(y.word(layout.GlobHead)), acts.Load(y.l.G(g, layout.GLink)))
	y.want.holds = append(slices.Clone(y.want.holds), g)
	y.goes(acts.Store(y.word(layout.GlobHead), link))
	if link == 0 {
		y.goes(acts.Store(y.word(layout.GlobTail), 0))
	}
	y.goes(acts.Add(y.word(layout.GlobSize), less))
}

// takes takes some: the first one stays in the hand, the others come into the ring.
func (y *trial) takes(list ...int) {
	y.Helper()
	y.goes(acts.Load(y.word(layout.GlobSize)))
	y.pulls(list[0])
	for _, g := range list[1:] {
		y.pulls(g)
		tail := y.is(y.proc(layout.Tail))
		y.goes(acts.Load(y.proc(layout.Tail)), acts.Store(y.l.Ring(y.want.p, tail), uint64(g)+1))
		y.want.holds = list[:1]
		y.goes(acts.Store(y.proc(layout.Tail), (tail+1)%round))
	}
}

// findsTaken gives the lock back, by which it has found what was taken.
func (y *trial) findsTaken(g int) {
	y.Helper()
	y.goes(acts.Store(y.l.Owner(0), 0))
	y.finds(g, false, acts.Add(y.l.Serving(0), 1))
}

// putsProc lets its processor be idle, and lie on the list, by which it has none.
func (y *trial) putsProc() {
	y.Helper()
	p, mask, first := y.want.p, y.is(y.word(layout.Mask)), y.is(y.word(layout.IdleP))
	y.goes(acts.Store(y.proc(layout.Status), api.PIdle), acts.Load(y.word(layout.Mask)), acts.Store(y.word(layout.Mask), mask|1<<p), acts.Load(y.word(layout.IdleP)), acts.Store(y.proc(layout.PLink), first))
	y.want.p = api.None
	y.goes(acts.Store(y.word(layout.IdleP), uint64(p)+1), acts.Add(y.word(layout.IdlePs), 1))
}

// getsProc gets p off the list.
func (y *trial) getsProc(p int) {
	y.Helper()
	mask, link := y.is(y.word(layout.Mask)), y.is(y.l.Proc(p, layout.PLink))
	y.goes(acts.Load(y.word(layout.IdleP)), acts.Load(y.l.Proc(p, layout.PLink)), acts.Load(y.word(layout.Mask)), acts.Store(y.word(layout.Mask), mask&^(1<<p)))
	y.want.p = p
	y.goes(acts.Store(y.word(layout.IdleP), link), acts.Add(y.word(layout.IdlePs), less))
}

// runs lets the processor that was got run.
func (y *trial) runs() {
	y.Helper()
	y.goes(acts.Store(y.proc(layout.Status), api.PRunning))
}

// putsThread lets the thread lie on the list of idle ones.
func (y *trial) putsThread() {
	y.Helper()
	first := y.is(y.word(layout.IdleM))
	y.goes(acts.Load(y.word(layout.IdleM)), acts.Store(y.l.Thread(y.who, layout.MLink), first), acts.Store(y.word(layout.IdleM), uint64(y.who)+1), acts.Add(y.word(layout.IdleMs), 1))
}

// countsOut counts the thread out of Spinning.
func (y *trial) countsOut() {
	y.Helper()
	y.want.spins = false
	y.goes(acts.Add(y.word(layout.Spinning), less))
}

// sleeps loads the note, and is asleep; steps do nothing then.
func (y *trial) sleeps() {
	y.Helper()
	y.asleep = true
	y.goes(acts.Load(y.l.Thread(y.who, layout.Note)))
	clock := y.m.Clock()
	for range 4 {
		if y.x.Step(y.m) || y.x.Done() || y.m.Clock() != clock {
			y.Errorf("a step of what is asleep: Done %v, %d accesses", y.x.Done(), y.m.Clock()-clock)
		}
		y.tells()
	}
}

// wakes gives it a processor, and wakes it; it takes that.
func (y *trial) wakes(p int, spins bool) {
	y.Helper()
	w := uint64(p) + 1
	if spins {
		w += round
	}
	y.m.Store(99, y.l.Thread(y.who, layout.Given), w)
	y.m.Store(99, y.l.Thread(y.who, layout.Note), 1)
	y.asleep = false
	y.tells()
	y.goes(acts.Load(y.l.Thread(y.who, layout.Note)), acts.Store(y.l.Thread(y.who, layout.Note), 0), acts.Load(y.l.Thread(y.who, layout.Given)))
	y.want.p, y.want.spins = p, spins
	y.goes(acts.Store(y.l.Thread(y.who, layout.Given), 0))
	y.runs()
}

// findsNext lets g be the next one of its processor, and begins, or begins anew: that one is found, and inherits.
func (y *trial) findsNext(g int) {
	y.Helper()
	y.m.Store(99, y.proc(layout.Next), uint64(g)+1)
	y.begins()
	y.goes(acts.Load(y.proc(layout.Next)))
	y.finds(g, true, acts.Swap(y.proc(layout.Next), uint64(g)+1, 0))
}

// R1: no machine is done, and its steps do nothing; it has nothing.
func TestNoMachine(t *testing.T) {
	_, m := lay(t, 3)
	var none *find.Find
	for _, x := range []*find.Find{none, {}} {
		if got := look(x); !got.is(seen{g: api.None, p: api.None}) || x.Asleep(m) || x.Asleep(nil) {
			t.Errorf("told %v", got)
		}
		acts.Rests(t, m, x)
	}
}

// A Find without a memory, a layout, or draws does not panic; without draws it goes by noughts.
func TestNoMemoryNoLayoutNoDraws(t *testing.T) {
	l, m := lay(t, 3)
	x := find.New(l, 1, 0, true, nil)
	x.Step(nil)
	x.Asleep(nil)
	fill(l, m, 2, api.None, 5)
	acts.All(t, m, x)
	if got := look(x); !got.is(seen{g: 5, p: 0, spins: true, holds: []int{5}}) {
		t.Errorf("without draws: %v", got)
	}
	before := m.Words()
	for _, spins := range []bool{false, true} {
		x := find.New(nil, 1, 0, spins, nil)
		for range 50 {
			x.Step(m)
			x.Asleep(m)
			look(x)
		}
	}
	acts.Changed(t, m, before, nil)
}

// R1 and promises 21.1, 21.2: a processor that there is not has no words: all that it loads is at no place, and it goes on with noughts, which Every divides.
func TestNoSuchProcessor(t *testing.T) {
	for _, p := range []int{api.None, -2, math.MinInt, 3, 64, 1 << 32, math.MaxInt} {
		l, m := lay(t, 3)
		fill(l, m, 1, api.None, 4, 5)
		y := begin(t, l, m, 2, p, true)
		y.goes(acts.Load(api.None), acts.Load(api.None), acts.Load(l.Word(layout.GlobSize)), acts.Load(api.None), acts.Load(api.None), acts.Load(api.None), acts.Load(l.Word(layout.GlobSize)))
		y.visits(false, 0)
		y.goes(acts.Load(l.Word(layout.Mask)), acts.Load(api.None), acts.Load(l.Proc(1, layout.Head)), acts.Load(l.Proc(1, layout.Tail)), acts.Load(l.Ring(1, start)), acts.Store(api.None, 5))
		y.finds(4, false, acts.Swap(l.Proc(1, layout.Head), start, start+1))
	}
}

// R1: a thread that there is not finds as any other one; it sleeps for ever.
func TestNoSuchThread(t *testing.T) {
	for _, who := range []int{math.MinInt, -1, threads, 1000, 1 << 32, math.MaxInt} {
		l, m := lay(t, 3)
		fill(l, m, 0, api.None, 4)
		y := begin(t, l, m, who, 0, false)
		y.begins()
		y.goes(acts.Load(l.Proc(0, layout.Next)), acts.Load(l.Proc(0, layout.Head)), acts.Load(l.Proc(0, layout.Tail)), acts.Load(l.Ring(0, start)))
		y.finds(4, false, acts.Swap(l.Proc(0, layout.Head), start, start+1))
		x := find.New(l, who, 0, true, y.draws)
		for range 500 {
			x.Step(m)
		}
		if !x.Asleep(m) || x.Done() {
			t.Errorf("%d is not asleep", who)
		}
	}
}
