package rput_test

import (
	"slices"
	"testing"

	"turnspit/api"
	"turnspit/cell"
	"turnspit/globq"
	"turnspit/layout"
	"turnspit/lock"
	"turnspit/ring"
	"turnspit/rput"
)

// owner has a processor, and puts what it is given into its ring, one by one.
type owner struct {
	p    int
	put  *rput.Put
	rest []int // what it is to put yet
	full int   // how often its ring was full
}

// step does a step.
func (x *owner) step(l *layout.Layout, m *cell.Mem, roll uint64) {
	if x.put == nil && len(x.rest) > 0 {
		x.put = rput.New(l, x.p, x.p, x.rest[0], roll%3 == 0)
		x.rest = x.rest[1:]
	}
	if x.put != nil && x.put.Step(m) {
		if x.put.Moved() > 0 {
			x.full++
		}
		x.put = nil
	}
}

// thief takes one out of a ring, as whoever has the processor, or steals, does: by a swap of Head, or of Next.
type thief struct {
	does func(m *cell.Mem) // what comes next; none: it begins
	got  []int
}

// step does a step.
func (x *thief) step(l *layout.Layout, m *cell.Mem, p int, roll uint64) {
	if x.does != nil {
		x.does(m)
		return
	}
	if roll%4 == 0 {
		at := l.Proc(p, layout.Next)
		w := m.Load(9, at)
		x.does = func(m *cell.Mem) { x.swap(m, at, w, 0, w) }
		return
	}
	at := l.Proc(p, layout.Head)
	head, tail := m.Load(9, at), m.Load(9, l.Proc(p, layout.Tail))
	if head == tail {
		return
	}
	w := m.Load(9, l.Ring(p, head))
	x.does = func(m *cell.Mem) { x.swap(m, at, head, (head+1)%round, w) }
}

// swap has what w tells, if it is swapped.
func (x *thief) swap(m *cell.Mem, at int, old, w, g uint64) {
	x.does = nil
	if g != 0 && m.Swap(9, at, old, w) {
		x.got = append(x.got, int(g-1))
	}
}

// taker pulls out of the global queue, with the lock.
type taker struct {
	pull *globq.Pull
	todo []interface{ Step(m *cell.Mem) bool }
	got  []int
}

// step does a step.
func (x *taker) step(l *layout.Layout, m *cell.Mem) {
	if len(x.todo) == 0 {
		x.pull = globq.NewPull(l, 3)
		x.todo = []interface{ Step(m *cell.Mem) bool }{lock.New(l, 0, 3), x.pull, lock.NewRelease(l, 0, 3)}
	}
	if x.todo[0].Step(m) {
		x.todo = x.todo[1:]
	}
	if len(x.todo) > 0 {
		return
	}
	if g := x.pull.G(); g != api.None {
		x.got = append(x.got, g)
	}
	x.pull = nil
}

// has are all that are in its hand.
func (x *taker) has() []int {
	if g := x.pull.G(); g != api.None {
		return append(slices.Clone(x.got), g)
	}
	return x.got
}

// Promises 14.2 and 14.3: however owners, thieves and who pulls out of the queue go on between one another, each goroutine is at each step in just one place, and no ring has more than RingSize.
func TestEachInOnePlace(t *testing.T) {
	l, m := lay(t)
	owners := []*owner{{p: 0, rest: rising(0, 300)}, {p: 1, rest: rising(300, gs-300)}}
	a, b := &thief{}, &taker{}
	for p := range procs {
		m.Store(0, l.Proc(p, layout.Head), round-300)
		m.Store(0, l.Proc(p, layout.Tail), round-300)
	}
	roll := uint64(17)
	for n := range 60000 {
		roll = roll*6364136223846793005 + 1442695040888963407
		p := int(roll >> 50 % procs)
		switch roll >> 33 % 64 {
		case 0, 1, 2:
			a.step(l, m, p, roll>>40)
		case 3:
			b.step(l, m)
		default:
			owners[p].step(l, m, roll>>40)
		}
		if len(a.got)+len(b.got) > 20 { // what was had is put once more, all into one ring, so that it fills up
			owners[0].rest = slices.Concat(owners[0].rest, a.got, b.got)
			a.got, b.got = nil, nil
		}
		if n%16 == 0 {
			eachInOnePlace(t, l, m, owners, slices.Concat(a.got, b.has()))
		}
		if t.Failed() {
			t.Fatalf("step %d", n)
		}
	}
	if full := owners[0].full + owners[1].full; full < 2 || m.Bad() != 0 {
		t.Errorf("%d rings were full, bad %d", full, m.Bad())
	}
}

// eachInOnePlace looks for all goroutines.
func eachInOnePlace(t *testing.T, l *layout.Layout, m *cell.Mem, owners []*owner, had []int) {
	t.Helper()
	got, right := globq.List(l, m)
	got = slices.Concat(got, had)
	for _, x := range owners {
		lie, is := ring.Gs(l, m, x.p)
		got, right = slices.Concat(got, lie, x.rest, x.put.Holds()), right && is
	}
	slices.Sort(got)
	if !right || !slices.Equal(got, rising(0, gs)) {
		t.Errorf("%v, %v", got, right)
	}
}

// Promise 14.3: of a ring that fills up, again and again, the oldest ones go, and the new one behind them: the queue and then the ring have all in the order in which they were put, but for those that filled it up.
func TestOldestGo(t *testing.T) {
	for _, head := range []uint64{0, 77, round - 300} {
		l, m := lay(t)
		m.Store(0, l.Proc(0, layout.Head), head)
		m.Store(0, l.Proc(0, layout.Tail), head)
		var inRing, inQueue []int
		for g := range gs {
			moved := 0
			if len(inRing) == api.RingSize {
				moved = given
				inQueue = append(append(inQueue, inRing[:api.Half]...), g)
				inRing = inRing[api.Half:]
			} else {
				inRing = append(inRing, g)
			}
			x := rput.New(l, 1, 0, g, false)
			all(t, m, x)
			tells(t, x, moved)
			has(t, l, m, 0, inRing, inQueue)
		}
		if len(inQueue) != 2*given {
			t.Errorf("%d moved", len(inQueue))
		}
	}
}
