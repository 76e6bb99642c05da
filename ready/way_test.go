package ready_test

import (
	"math"
	"slices"
	"testing"

	"turnspit/acts"
	"turnspit/api"
	"turnspit/cell"
	"turnspit/globq"
	"turnspit/layout"
	"turnspit/ready"
	"turnspit/ring"
	"turnspit/wake"
)

const (
	procs   = 3
	threads = 70 // how many the config has
	gs      = 400
	round   = 1 << 32
	start   = round - 2 // where rings begin and end at first
	given   = api.Half + 1
)

// whos are threads at both ends, below 0 and beyond.
var whos = []int{0, 1, threads - 1, -1, threads, 1000, math.MaxInt}

// nones are neither processors nor goroutines.
var nones = []int{math.MinInt, -2, -1, 1 << 32, math.MaxInt - 1}

// lay is a layout, and its memory, whose words are stale, but those that tell of idle ones, of the queue, and of rings, which are empty: 0, and rings' ends just ahead of where they go round, as is the turn at the lock. Somebody spins, so that nobody is woken.
func lay(t *testing.T) (*layout.Layout, *cell.Mem) {
	t.Helper()
	l, m := acts.Lay(t, api.Config{Procs: procs, Threads: threads, Gs: gs})
	for at := range l.Len() {
		m.Store(99, at, 7)
	}
	for w := layout.GlobHead; w <= layout.Mask; w++ {
		m.Store(99, l.Word(w), 0)
	}
	for p := range procs {
		m.Store(99, l.Proc(p, layout.Head), start)
		m.Store(99, l.Proc(p, layout.Tail), start)
		m.Store(99, l.Proc(p, layout.Next), 0)
	}
	m.Store(99, l.Ticket(0), round-1)
	m.Store(99, l.Serving(0), round-1)
	m.Store(99, l.Word(layout.Spinning), 1)
	return l, m
}

// fill lays so many goroutines into a ring, from first on, and lets one be the next one.
func fill(l *layout.Layout, m *cell.Mem, p, first, many, next int) {
	for i := range uint64(many) {
		m.Store(99, l.Ring(p, start+i), uint64(first)+i+1)
	}
	m.Store(99, l.Proc(p, layout.Tail), (start+uint64(many))%round)
	m.Store(99, l.Proc(p, layout.Next), uint64(next+1))
}

// rising are so many numbers, from first on.
func rising(first, n int) []int {
	list := make([]int, n)
	for i := range list {
		list[i] = first + i
	}
	return list
}

// machine is what both machines have.
type machine interface {
	acts.Machine
	Holds() []int
	Hand() int
	Counts() bool
}

// seen is what a machine tells: of a Ready which one was readied, of a Give whether it gave way.
type seen struct {
	g      int
	gave   bool
	holds  []int
	hand   int
	counts bool
}

// look is what it tells right now.
func look(x machine) seen {
	got := seen{g: api.None, holds: x.Holds(), hand: x.Hand(), counts: x.Counts()}
	switch x := x.(type) {
	case *ready.Ready:
		got.g = x.G()
	case *ready.Give:
		got.gave = x.Gave()
	}
	return got
}

// is tells whether both are the same.
func (a seen) is(b seen) bool {
	return a.g == b.g && a.gave == b.gave && slices.Equal(a.holds, b.holds) && a.hand == b.hand && a.counts == b.counts
}

// trial is a machine on its way, and what it is to tell from now on.
type trial struct {
	*testing.T
	l    *layout.Layout
	m    *cell.Mem
	who  int
	p    int
	x    machine
	want seen
}

// begin has a machine at its beginning.
func begin(t *testing.T, l *layout.Layout, m *cell.Mem, who, p int, x machine) *trial {
	t.Helper()
	y := &trial{T: t, l: l, m: m, who: who, p: p, x: x, want: seen{g: api.None, hand: api.None}}
	if x.Done() {
		t.Errorf("done ahead of the first step")
	}
	y.tells()
	return y
}

// tells holds what it tells against what it is to tell.
func (y *trial) tells() {
	y.Helper()
	for range 2 {
		got := look(y.x)
		if !got.is(y.want) {
			y.Errorf("told %v, want %v", got, y.want)
		}
		for i := range got.holds { // an answer that is changed changes nothing
			got.holds[i] = -9
		}
	}
}

// goes does steps that are to do these accesses, none of which ends it.
func (y *trial) goes(list ...acts.Act) {
	y.Helper()
	for i, a := range list {
		acts.Step(y, y.m, y.x, y.who, a, false)
		y.tells()
		if y.Failed() {
			y.Fatalf("step %d of %d", i, len(list))
		}
	}
}

// ends does the last step; those behind it do nothing.
func (y *trial) ends(a acts.Act) {
	y.Helper()
	acts.Step(y, y.m, y.x, y.who, a, true)
	y.rests()
}

// rests does steps that are to do nothing, of one that is done.
func (y *trial) rests() {
	y.Helper()
	y.tells()
	acts.Rests(y, y.m, y.x)
	y.tells()
}

// is is what stands at a place, proc the place of one of the processor's words.
func (y *trial) is(at int) uint64 {
	w, _ := y.m.Peek(at)
	return w
}

func (y *trial) proc(field int) int { return y.l.Proc(y.p, field) }

// laysNext lets one that is in the hand be the next one, where there was none.
func (y *trial) laysNext(g int) {
	y.Helper()
	y.goes(acts.Load(y.proc(layout.Next)))
	y.want.holds = nil
	y.goes(acts.Swap(y.proc(layout.Next), 0, uint64(g)+1))
}

// replaces lets one that is in the hand be the next one, where there was another one, which is in the hand then.
func (y *trial) replaces(g, was int) {
	y.Helper()
	y.goes(acts.Load(y.proc(layout.Next)))
	y.want.holds = []int{was}
	y.goes(acts.Swap(y.proc(layout.Next), uint64(was)+1, uint64(g)+1))
}

// lays lets one that is in the hand lie at the end of the ring, which has so many.
func (y *trial) lays(g, many int) {
	y.Helper()
	tail := start + uint64(many)
	y.goes(acts.Load(y.proc(layout.Head)), acts.Load(y.proc(layout.Tail)), acts.Store(y.l.Ring(y.p, tail), uint64(g)+1))
	y.want.holds = nil
	y.goes(acts.Store(y.proc(layout.Tail), (tail+1)%round))
}

// moves lets a full ring give Half, from first on, and puts these, and the one that is in the hand, behind the global queue, which is empty.
func (y *trial) moves(g, first int) {
	y.Helper()
	y.goes(acts.Load(y.proc(layout.Head)), acts.Load(y.proc(layout.Tail)))
	for i := range uint64(api.Half) {
		y.goes(acts.Load(y.l.Ring(y.p, start+i)))
	}
	y.want.holds = append(rising(first, api.Half), g)
	y.goes(acts.Swap(y.proc(layout.Head), start, (start+api.Half)%round))
	y.enqueues(api.None)
}

// enqueues puts what is in the hand behind the global queue, whose last one is last (None: it is empty), with the lock.
func (y *trial) enqueues(last int) {
	y.Helper()
	y.goes(acts.Acquire(y.l, 0, y.who)...)
	moved := y.want.holds
	for i, g := range moved {
		link := uint64(0)
		if i+1 < len(moved) {
			link = uint64(moved[i+1]) + 1
		}
		y.goes(acts.Store(y.l.G(g, layout.GLink), link))
	}
	y.goes(acts.Load(y.l.Word(layout.GlobTail)))
	first := y.l.Word(layout.GlobHead)
	if last != api.None {
		first = y.l.G(last, layout.GLink)
	}
	y.want.holds = nil
	y.goes(acts.Store(first, uint64(moved[0])+1), acts.Store(y.l.Word(layout.GlobTail), uint64(moved[len(moved)-1])+1), acts.Add(y.l.Word(layout.GlobSize), uint64(len(moved))))
	y.goes(acts.Release(y.l, 0)...)
}

// wakesNobody wakes nobody, as somebody spins.
func (y *trial) wakesNobody() {
	y.Helper()
	y.ends(acts.Load(y.l.Word(layout.Spinning)))
}

// wakesSome wakes some thread, as layer 19 does, and tells what that tells: with processor 2, if that is idle, thread 5, if one is to be had.
func (y *trial) wakesSome(idle, one bool) {
	y.Helper()
	some, hands, counts := wake.NewWake(y.l, y.who), 0, 0
	acts.Same(y, y.m, y.x, some, true, func() {
		y.want.hand, y.want.counts = some.Holds(), some.Counts()
		y.tells()
		if y.want.hand == 2 {
			hands++
		}
		if y.want.counts {
			counts++
		}
	})
	y.rests()
	if hands > 0 != idle || counts == 0 {
		y.Errorf("the processor was %d steps in the hand, it counted %d", hands, counts)
	}
	if is := y.is(y.l.Thread(5, layout.Given)) == 3+round; is != (idle && one) {
		y.Errorf("given: %x", y.is(y.l.Thread(5, layout.Given)))
	}
}

// lies holds the ring, and the global queue, against what they should be.
func (y *trial) lies(inRing, inQueue []int) {
	y.Helper()
	if got, right := ring.Gs(y.l, y.m, y.p); !right || !slices.Equal(got, inRing) {
		y.Errorf("the ring: %v, %v, want %v", got, right, inRing)
	}
	if got, right := globq.List(y.l, y.m); !right || !slices.Equal(got, inQueue) {
		y.Errorf("the queue: %v, %v, want %v", got, right, inQueue)
	}
}

// Machines that there are not: no one, one that nobody made.
func TestNoMachine(t *testing.T) {
	l, m := lay(t)
	var r *ready.Ready
	var g *ready.Give
	for _, x := range []machine{r, g, &ready.Ready{}, &ready.Give{}} {
		y := &trial{T: t, l: l, m: m, x: x, want: seen{g: api.None, hand: api.None}}
		y.rests()
	}
}

// Machines without a memory, or without a layout, do not panic.
func TestNoMemoryNoLayout(t *testing.T) {
	l, m := lay(t)
	for _, x := range []machine{ready.New(l, 0, 1, 5), ready.NewGive(l, 0, 1, 5, ready.Yields), ready.NewGive(l, 0, 1, 5, ready.Preempted), ready.NewGive(l, 0, 1, 5, ready.Parks)} {
		y := begin(t, l, m, 0, 1, x)
		for range 3 {
			if x.Step(nil) || x.Done() {
				t.Errorf("a step without a memory")
			}
			y.tells()
		}
	}
	before := m.Words()
	for _, x := range []machine{ready.New(nil, 0, 1, 5), ready.NewGive(nil, 0, 1, 5, ready.Yields), ready.NewGive(nil, 0, 1, 5, ready.Preempted), ready.NewGive(nil, 0, 1, 5, ready.Parks)} {
		for range 60 {
			x.Step(m)
			look(x)
		}
	}
	acts.Changed(t, m, before, nil)
}
