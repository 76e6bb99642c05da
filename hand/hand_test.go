package hand_test

import (
	"math"
	"testing"

	"turnspit/acts"
	"turnspit/api"
	"turnspit/cell"
	"turnspit/hand"
	"turnspit/idlep"
	"turnspit/layout"
)

const (
	procs   = 5
	threads = 70 // how many the config has
	gs      = 9
	round   = 1 << 32
	less    = round - 1
	start   = round - 2 // where rings begin and end at first
	spins   = round     // what a word that is given has besides, if the thread spins
)

// whos are whoever has the processor: the monitor is threads; others are at both ends, below 0 and beyond.
var whos = []int{threads, 0, threads - 1, -1, 1000, math.MaxInt}

// nones are no processors.
var nones = []int{math.MinInt, -2, -1, procs, 1 << 32, math.MaxInt - 1}

// lay is a layout, and its memory, whose words are stale, but the scheduler's: these are 0; rings are empty, and begin and end just ahead of where they go round, as does the turn at the lock.
func lay(t *testing.T) (*layout.Layout, *cell.Mem) {
	t.Helper()
	l, m := acts.Lay(t, api.Config{Procs: procs, Threads: threads, Gs: gs})
	for at := range l.Len() {
		m.Store(99, at, 7)
	}
	for w := layout.GlobHead; w <= layout.Mask; w++ {
		m.Store(99, l.Word(w), 0)
	}
	for p := range procs {
		m.Store(99, l.Proc(p, layout.Status), api.PIdle)
		m.Store(99, l.Proc(p, layout.Head), start)
		m.Store(99, l.Proc(p, layout.Tail), start)
		m.Store(99, l.Proc(p, layout.Next), 0)
	}
	m.Store(99, l.Ticket(0), round-1)
	m.Store(99, l.Serving(0), round-1)
	return l, m
}

// seen is what an Over tells.
type seen struct {
	p      int
	counts bool
}

// trial is an Over on its way, and what it is to tell from now on.
type trial struct {
	*testing.T
	l    *layout.Layout
	m    *cell.Mem
	who  int
	p    int
	x    *hand.Over
	want seen
}

// begin is an Over at its beginning: the processor is in its hand.
func begin(t *testing.T, l *layout.Layout, m *cell.Mem, who, p int) *trial {
	t.Helper()
	y := &trial{T: t, l: l, m: m, who: who, p: p, x: hand.New(l, who, p), want: seen{p: p}}
	if y.x.Done() {
		t.Errorf("done ahead of the first step")
	}
	y.tells()
	return y
}

// tells holds what it tells against what it is to tell.
func (y *trial) tells() {
	y.Helper()
	for range 2 {
		if got := (seen{y.x.Holds(), y.x.Counts()}); got != y.want {
			y.Errorf("told %v, want %v", got, y.want)
		}
	}
}

// goes does steps that are to do these accesses, none of which ends it.
func (y *trial) goes(list ...acts.Act) {
	y.Helper()
	for i, a := range list {
		acts.Step(y, y.m, y.x, y.who, a, false)
		y.tells()
		if y.Failed() {
			y.Fatalf("step %d of %d", i, len(list))
		}
	}
}

// ends does the last step; those behind it do nothing.
func (y *trial) ends(a acts.Act) {
	y.Helper()
	acts.Step(y, y.m, y.x, y.who, a, true)
	y.rests()
}

// rests does steps that are to do nothing, of one that is done.
func (y *trial) rests() {
	y.Helper()
	y.tells()
	acts.Rests(y, y.m, y.x)
	y.tells()
}

// word is the place of one of the scheduler's words, proc that of one of the processor's, is what stands at a place.
func (y *trial) word(w int) int     { return y.l.Word(w) }
func (y *trial) proc(field int) int { return y.l.Proc(y.p, field) }
func (y *trial) is(at int) uint64 {
	w, _ := y.m.Peek(at)
	return w
}

// looks looks at the ring.
func (y *trial) looks() {
	y.Helper()
	y.goes(acts.Load(y.proc(layout.Head)), acts.Load(y.proc(layout.Tail)), acts.Load(y.proc(layout.Next)), acts.Load(y.proc(layout.Tail)))
}

// load loads some of the scheduler's words, one by one.
func (y *trial) load(ws ...int) {
	y.Helper()
	for _, w := range ws {
		y.goes(acts.Load(y.word(w)))
	}
}

// acquires has the lock, if nobody does.
func (y *trial) acquires() {
	y.Helper()
	y.goes(acts.Acquire(y.l, 0, y.who)...)
}

// countsIn counts itself in by the Swap, and says that nobody is needed.
func (y *trial) countsIn() {
	y.Helper()
	y.want.counts = true
	y.goes(acts.Swap(y.word(layout.Spinning), 0, 1), acts.Store(y.word(layout.Needs), 0))
}

// begins does the step by which it begins to start a thread: from here on it does not count.
func (y *trial) begins(a acts.Act) {
	y.Helper()
	y.want.counts = false
	y.goes(a)
}

// acquiresToStart has the lock, and begins to start a thread.
func (y *trial) acquiresToStart() {
	y.Helper()
	list := acts.Acquire(y.l, 0, y.who)
	y.goes(list[:2]...)
	y.begins(list[2])
}

// starts starts the thread that is made next, given so: p is in the hand until then.
func (y *trial) starts(also uint64) {
	y.Helper()
	had := y.is(y.word(layout.Threads))
	y.load(layout.IdleM, layout.Threads)
	y.goes(acts.Store(y.word(layout.Threads), had+1))
	y.goes(acts.Release(y.l, 0)...)
	y.want.p = api.None
	y.goes(acts.Store(y.l.Thread(int(had), layout.Given), uint64(y.p)+1+also))
	y.ends(acts.Store(y.l.Thread(int(had), layout.Note), 1))
}

// lacks starts none, as there is none: p is left again.
func (y *trial) lacks(counted bool) {
	y.Helper()
	y.load(layout.IdleM, layout.Threads)
	y.goes(acts.Store(y.word(layout.Needs), 1))
	if counted {
		y.goes(acts.Add(y.word(layout.Spinning), less))
	}
	y.want.p = api.None
	y.goes(acts.Store(y.proc(layout.Status), api.PSyscall), acts.Release(y.l, 0)[0])
	y.ends(acts.Release(y.l, 0)[1])
}

// lies lets p lie on the list, and releases the lock.
func (y *trial) lies() {
	y.Helper()
	mask, first := y.is(y.word(layout.Mask)), y.is(y.word(layout.IdleP))
	y.goes(acts.Load(y.word(layout.Mask)), acts.Store(y.word(layout.Mask), mask|idlep.Bit(y.p)))
	y.goes(acts.Load(y.word(layout.IdleP)), acts.Store(y.proc(layout.PLink), first))
	p := y.want.p
	y.want.p = api.None
	y.goes(acts.Store(y.word(layout.IdleP), uint64(p)+1), acts.Add(y.word(layout.IdlePs), 1), acts.Release(y.l, 0)[0])
	y.ends(acts.Release(y.l, 0)[1])
}

// full lets all threads be had.
func (y *trial) full() {
	y.m.Store(99, y.word(layout.Threads), threads)
}

// Machines that there are not: no one, one that nobody made.
func TestNoMachine(t *testing.T) {
	l, m := lay(t)
	var none *hand.Over
	for _, x := range []*hand.Over{none, {}} {
		y := &trial{T: t, l: l, m: m, x: x, want: seen{p: api.None}}
		y.rests()
	}
}

// A machine without a memory, without a layout, and of a memory without words, does not panic.
func TestNoMemoryNoLayoutNoWords(t *testing.T) {
	l, m := lay(t)
	y := begin(t, l, m, 3, 2)
	for range 3 {
		if y.x.Step(nil) || y.x.Done() {
			t.Errorf("a step without a memory")
		}
		y.tells()
	}
	before := m.Words()
	bare := hand.New(nil, 3, 2)
	for range 60 {
		bare.Step(m)
		bare.Holds()
		bare.Counts()
	}
	acts.Changed(t, m, before, nil)
	empty, _ := cell.New(0)
	for range 60 {
		y.x.Step(empty)
		y.x.Holds()
		y.x.Counts()
	}
}
