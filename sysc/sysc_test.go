package sysc_test

import (
	"math"
	"slices"
	"testing"

	"turnspit/acts"
	"turnspit/api"
	"turnspit/cell"
	"turnspit/idlep"
	"turnspit/layout"
	"turnspit/sysc"
)

const (
	procs   = 5
	threads = 70 // how many the config has
	gs      = 400
	round   = 1 << 32
	less    = round - 1
)

// whos are threads at both ends, below 0 and beyond.
var whos = []int{0, 1, threads - 1, -1, threads, 1000, math.MaxInt}

// gsAtEnds are goroutines at both ends.
var gsAtEnds = []int{0, 1, 300, gs - 1}

// nones are neither processors nor goroutines.
var nones = []int{math.MinInt, -2, -1, 1 << 32, math.MaxInt - 1}

// lay is a layout, and its memory, whose words are stale, but those that tell of idle ones, and of the queue: these are 0; the turn at the lock goes round, and so do all Calls.
func lay(t *testing.T) (*layout.Layout, *cell.Mem) {
	t.Helper()
	l, m := acts.Lay(t, api.Config{Procs: procs, Threads: threads, Gs: gs})
	for at := range l.Len() {
		m.Store(99, at, 7)
	}
	for w := layout.GlobHead; w <= layout.Mask; w++ {
		m.Store(99, l.Word(w), 0)
	}
	for p := range procs {
		m.Store(99, l.Proc(p, layout.Calls), less)
	}
	m.Store(99, l.Ticket(0), less)
	m.Store(99, l.Serving(0), less)
	return l, m
}

// idle lets processors lie on the list, one by one.
func idle(t *testing.T, l *layout.Layout, m *cell.Mem, ps ...int) {
	t.Helper()
	for _, p := range ps {
		acts.All(t, m, idlep.New(l, 99, p))
	}
}

// locked are the scheduler's lock's words, when it was had so often, and given back, and what else is named.
func locked(l *layout.Layout, often uint64, want map[int]uint64) map[int]uint64 {
	want[l.Ticket(0)], want[l.Serving(0)], want[l.Owner(0)] = often-1, often-1, 0
	return want
}

// went holds whether it has gone in against whether it should have.
func went(t *testing.T, x *sysc.In, want bool) {
	t.Helper()
	for range 2 {
		if x.Went() != want {
			t.Errorf("Went: %v, want %v", x.Went(), want)
		}
	}
}

// goesIn does all steps of an In, of which the words are named: the goroutine's Status, and the processor's Calls and Status.
func goesIn(t *testing.T, m *cell.Mem, x *sysc.In, who, g, calls, p int) {
	t.Helper()
	went(t, x, false)
	if x.Done() {
		t.Errorf("done ahead of the first step")
	}
	acts.Step(t, m, x, who, acts.Store(g, api.GSyscall), false)
	went(t, x, true)
	acts.Step(t, m, x, who, acts.Add(calls, 1), false)
	went(t, x, true)
	acts.Step(t, m, x, who, acts.Store(p, api.PSyscall), true)
	went(t, x, true)
	acts.Rests(t, m, x)
	went(t, x, true)
}

// Promises 24.1 and 24.2: an In, access by access: whatever the words were; nothing else is touched.
func TestIn(t *testing.T) {
	for i, who := range whos {
		for _, g := range gsAtEnds {
			for p := range procs {
				l, m := lay(t)
				status, calls, proc := l.G(g, layout.GStatus), l.Proc(p, layout.Calls), l.Proc(p, layout.Status)
				was := []uint64{0, 1, 8, round - 1, round, round + 5, math.MaxUint64}[i]
				m.Store(99, calls, was)
				m.Store(99, proc, uint64(i))
				m.Store(99, status, uint64(i))
				before := m.Words()
				goesIn(t, m, sysc.New(l, who, p, g), who, status, calls, proc)
				acts.Changed(t, m, before, map[int]uint64{status: api.GSyscall, calls: (was + 1) % round, proc: api.PSyscall})
				if m.Bad() != 0 {
					t.Errorf("bad: %d", m.Bad())
				}
			}
		}
	}
}

// Promise 24.1: of a processor, or a goroutine, that there is not the words are at no place; the others are as ever.
func TestInOfNone(t *testing.T) {
	for _, none := range nones {
		l, m := lay(t)
		goesIn(t, m, sysc.New(l, 3, none, 4), 3, l.G(4, layout.GStatus), api.None, api.None)
		goesIn(t, m, sysc.New(l, 3, 2, none), 3, api.None, l.Proc(2, layout.Calls), l.Proc(2, layout.Status))
		goesIn(t, m, sysc.New(l, 3, procs, gs), 3, api.None, api.None, api.None)
		if m.Bad() != 6 {
			t.Errorf("bad: %d", m.Bad())
		}
	}
}

// Promise 24.1: what others store between the steps of an In does not turn it, and what they add to Calls is kept.
func TestInOthersBetween(t *testing.T) {
	l, m := lay(t)
	status, calls, proc := l.G(4, layout.GStatus), l.Proc(2, layout.Calls), l.Proc(2, layout.Status)
	x := sysc.New(l, 3, 2, 4)
	acts.Step(t, m, x, 3, acts.Store(status, api.GSyscall), false)
	m.Store(99, status, api.GDead)
	m.Store(99, calls, 40)
	acts.Step(t, m, x, 3, acts.Add(calls, 1), false)
	m.Store(99, calls, 50)
	m.Store(99, proc, api.PIdle)
	acts.Step(t, m, x, 3, acts.Store(proc, api.PSyscall), true)
	if a, b := peek(m, status), peek(m, calls); a != api.GDead || b != 50 {
		t.Errorf("Status %d, Calls %d", a, b)
	}
}

// peek is what stands at a place.
func peek(m *cell.Mem, at int) uint64 {
	w, _ := m.Peek(at)
	return w
}

// Machines that there are not: no one, one that nobody made.
func TestNoMachine(t *testing.T) {
	l, m := lay(t)
	var in *sysc.In
	for _, x := range []*sysc.In{in, {}} {
		acts.Rests(t, m, x)
		went(t, x, false)
	}
	var out *sysc.Out
	for _, x := range []*sysc.Out{out, {}} {
		y := &trial{T: t, l: l, m: m, x: x, want: seen{p: api.None}}
		y.rests()
	}
}

// Machines without a memory, or without a layout, do not panic.
func TestNoMemoryNoLayout(t *testing.T) {
	l, m := lay(t)
	in, y := sysc.New(l, 3, 2, 4), begin(t, l, m, 3, 2, 4)
	for range 3 {
		if in.Step(nil) || y.x.Step(nil) || in.Done() || y.x.Done() {
			t.Errorf("a step without a memory")
		}
		went(t, in, false)
		y.tells()
	}
	before := m.Words()
	in, out := sysc.New(nil, 3, 2, 4), sysc.NewOut(nil, 3, 2, 4)
	for range 60 {
		in.Step(m)
		out.Step(m)
		look(out)
	}
	acts.Changed(t, m, before, nil)
}

// seen is what an Out tells.
type seen struct {
	p          int
	came, runs bool
	holds      []int
}

// look is what it tells right now.
func look(x *sysc.Out) seen {
	return seen{x.P(), x.Came(), x.Runs(), x.Holds()}
}

// is tells whether both are the same.
func (a seen) is(b seen) bool {
	return a.p == b.p && a.came == b.came && a.runs == b.runs && slices.Equal(a.holds, b.holds)
}

// trial is an Out on its way, and what it is to tell from now on.
type trial struct {
	*testing.T
	l    *layout.Layout
	m    *cell.Mem
	who  int
	p, g int
	x    *sysc.Out
	want seen
}

// begin is an Out at its beginning.
func begin(t *testing.T, l *layout.Layout, m *cell.Mem, who, p, g int) *trial {
	t.Helper()
	y := &trial{T: t, l: l, m: m, who: who, p: p, g: g, x: sysc.NewOut(l, who, p, g), want: seen{p: api.None}}
	if y.x.Done() {
		t.Errorf("done ahead of the first step")
	}
	y.tells()
	return y
}

// tells holds what it tells against what it is to tell.
func (y *trial) tells() {
	y.Helper()
	for range 2 {
		got := look(y.x)
		if !got.is(y.want) {
			y.Errorf("told %v, want %v", got, y.want)
		}
		for i := range got.holds { // an answer that is changed changes nothing
			got.holds[i] = -9
		}
	}
}

// goes does steps that are to do these accesses, none of which ends it.
func (y *trial) goes(list ...acts.Act) {
	y.Helper()
	for i, a := range list {
		acts.Step(y, y.m, y.x, y.who, a, false)
		y.tells()
		if y.Failed() {
			y.Fatalf("step %d of %d", i, len(list))
		}
	}
}

// ends does the last step; those behind it do nothing.
func (y *trial) ends(a acts.Act) {
	y.Helper()
	acts.Step(y, y.m, y.x, y.who, a, true)
	y.rests()
}

// rests does steps that are to do nothing, of one that is done.
func (y *trial) rests() {
	y.Helper()
	y.tells()
	acts.Rests(y, y.m, y.x)
	y.tells()
}

// status is the place of the goroutine's Status, word that of one of the scheduler's words, proc that of a processor's Status.
func (y *trial) status() int    { return y.l.G(y.g, layout.GStatus) }
func (y *trial) word(w int) int { return y.l.Word(w) }
func (y *trial) proc(p int) int { return y.l.Proc(p, layout.Status) }

// misses does the Swap that is not done, and the load of IdleP.
func (y *trial) misses() {
	y.Helper()
	y.goes(acts.Swap(y.proc(y.p), api.PSyscall, api.PRunning), acts.Load(y.word(layout.IdleP)))
}

// acquires has the lock, if nobody does; releases gives it back.
func (y *trial) acquires() {
	y.Helper()
	y.goes(acts.Acquire(y.l, 0, y.who)...)
}

func (y *trial) releases() {
	y.Helper()
	y.goes(acts.Release(y.l, 0)...)
}

// gets gets a processor off the list, which it has from the store of IdleP on.
func (y *trial) gets(p int) {
	y.Helper()
	mask, link := peek(y.m, y.word(layout.Mask)), y.l.Proc(p, layout.PLink)
	behind := peek(y.m, link)
	y.goes(acts.Load(y.word(layout.IdleP)), acts.Load(link), acts.Load(y.word(layout.Mask)), acts.Store(y.word(layout.Mask), mask&^(1<<p)))
	y.want.p = p
	y.goes(acts.Store(y.word(layout.IdleP), behind), acts.Add(y.word(layout.IdlePs), less))
}

// getsNone gets none, as none lies there.
func (y *trial) getsNone() {
	y.Helper()
	y.goes(acts.Load(y.word(layout.IdleP)))
}

// runs lets the goroutine run, and is done.
func (y *trial) runs() {
	y.Helper()
	y.want.came, y.want.runs = true, true
	y.ends(acts.Store(y.status(), api.GRunning))
}

// waits lets it be runnable: from here on it is in the hand.
func (y *trial) waits() {
	y.Helper()
	y.want.came, y.want.holds = true, []int{y.g}
	y.goes(acts.Store(y.status(), api.GRunnable))
}

// enqueues puts it behind the global queue, whose last one is last (None: it is empty), releases the lock, and is done.
func (y *trial) enqueues(last int) {
	y.Helper()
	y.goes(acts.Store(y.l.G(y.g, layout.GLink), 0), acts.Load(y.word(layout.GlobTail)))
	first := y.word(layout.GlobHead)
	if last != api.None {
		first = y.l.G(last, layout.GLink)
	}
	y.want.holds = nil
	y.goes(acts.Store(first, uint64(y.g)+1), acts.Store(y.word(layout.GlobTail), uint64(y.g)+1), acts.Add(y.word(layout.GlobSize), 1))
	y.goes(acts.Release(y.l, 0)[0])
	y.ends(acts.Release(y.l, 0)[1])
}

// starts releases the lock, and lets the processor that was got at last run: the goroutine stays in the hand, and is started by who has it.
func (y *trial) starts() {
	y.Helper()
	y.releases()
	y.ends(acts.Store(y.proc(y.want.p), api.PRunning))
}
