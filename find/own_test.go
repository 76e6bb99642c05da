package find_test

import (
	"math"
	"slices"
	"testing"

	"turnspit/acts"
	"turnspit/api"
	"turnspit/globq"
	"turnspit/layout"
	"turnspit/ring"
)

// whos are threads at both ends, and between.
var whos = []int{0, 1, threads - 1}

// The chapter's example: of one processor whose ring has 3, and nothing else ever happened: 8 steps.
func TestExample(t *testing.T) {
	l, m := acts.Lay(t, api.Config{Procs: 1, Threads: 1, Gs: 4})
	fill(l, m, 0, api.None, 3)
	y := begin(t, l, m, 0, 0, false)
	y.begins()
	y.goes(acts.Load(l.Word(layout.GlobSize)), acts.Load(l.Proc(0, layout.Next)), acts.Load(l.Proc(0, layout.Head)), acts.Load(l.Proc(0, layout.Tail)), acts.Load(l.Ring(0, 0)))
	y.finds(3, false, acts.Swap(l.Proc(0, layout.Head), 0, 1))
	y.told(0)
}

// Promises 21.1 and 21.2: where Preempt is 0, the next one comes first, and inherits; then the ring.
func TestNotPreempted(t *testing.T) {
	for _, who := range whos {
		for _, spins := range []bool{false, true} {
			l, m := lay(t, 3)
			fill(l, m, 1, 3, 1, 2)
			before := m.Words()
			y := begin(t, l, m, who, 1, spins)
			y.begins()
			y.goes(acts.Load(l.Proc(1, layout.Next)))
			y.finds(3, true, acts.Swap(l.Proc(1, layout.Next), 4, 0))
			acts.Changed(t, m, before, map[int]uint64{l.Proc(1, layout.Next): 0})
			for i, g := range []int{1, 2} {
				head := uint64(start + i)
				y = begin(t, l, m, who, 1, spins)
				y.begins()
				y.goes(acts.Load(l.Proc(1, layout.Next)), acts.Load(l.Proc(1, layout.Head)), acts.Load(l.Proc(1, layout.Tail)), acts.Load(l.Ring(1, head)))
				y.finds(g, false, acts.Swap(l.Proc(1, layout.Head), head, (head+1)%round))
			}
			acts.Changed(t, m, before, map[int]uint64{l.Proc(1, layout.Next): 0, l.Proc(1, layout.Head): 0})
		}
	}
}

// Promises 21.1 and 21.2: where Preempt is not 0, 0 is stored there, and the ring comes first, and then the next one, which does not inherit.
func TestPreempted(t *testing.T) {
	for _, preempt := range []uint64{1, 2, 1 << 32, math.MaxUint64} {
		for _, spins := range []bool{false, true} {
			l, m := lay(t, 3)
			fill(l, m, 2, 3, 1)
			before := m.Words()
			for _, g := range []int{1, 3} {
				m.Store(99, l.Proc(2, layout.Preempt), preempt)
				y := begin(t, l, m, 0, 2, spins)
				y.goes(acts.Load(l.Proc(2, layout.Preempt)), acts.Store(l.Proc(2, layout.Preempt), 0), acts.Load(l.Proc(2, layout.Turns)))
				y.goes(acts.Load(l.Proc(2, layout.Head)), acts.Load(l.Proc(2, layout.Tail)))
				if g == 1 {
					y.goes(acts.Load(l.Ring(2, start)))
					y.finds(1, false, acts.Swap(l.Proc(2, layout.Head), start, start+1))
				} else {
					y.goes(acts.Load(l.Proc(2, layout.Next)))
					y.finds(3, false, acts.Swap(l.Proc(2, layout.Next), 4, 0))
				}
			}
			acts.Changed(t, m, before, map[int]uint64{l.Proc(2, layout.Next): 0, l.Proc(2, layout.Head): start + 1})
		}
	}
}

// Promises 21.1 and 21.2: the first turn of Every one is taken from the global queue, one alone, though its own ring has some.
func TestTurn(t *testing.T) {
	for _, turns := range []uint64{0, 61, 122, 61 * 61, 61 << 32, math.MaxUint64 / 61 * 61} {
		for _, who := range whos {
			l, m := lay(t, 3)
			fill(l, m, 1, 3, 1, 2)
			queue(t, l, m, 9, 8, 7, 6)
			m.Store(99, l.Proc(1, layout.Turns), turns)
			y := begin(t, l, m, who, 1, false)
			y.begins()
			y.goes(acts.Load(l.Word(layout.GlobSize)))
			y.acquires()
			y.takes(9)
			y.findsTaken(9)
			if got, _ := ring.Gs(l, m, 1); !slices.Equal(got, []int{1, 2, 3}) || m.Bad() != 0 {
				t.Errorf("the ring: %v, bad %d", got, m.Bad())
			}
		}
	}
}

// Promise 21.1: of any other turn the own ring comes first, whatever waits in the queue.
func TestNoTurn(t *testing.T) {
	for _, turns := range []uint64{1, 60, 62, 121, 123, 1 << 32, 61<<32 + 1, math.MaxUint64} {
		l, m := lay(t, 3)
		queue(t, l, m, 9)
		m.Store(99, l.Proc(1, layout.Turns), turns)
		begin(t, l, m, 0, 1, false).findsNext(5)
	}
}

// Promise 21.1: where it is the queue's turn, and GlobSize is 0, the lock is not asked for, whatever GlobHead is; where Preempt is set, what follows is afresh then, too.
func TestTurnOfNone(t *testing.T) {
	l, m := lay(t, 3)
	fill(l, m, 0, 3, 1)
	queue(t, l, m, 9)
	m.Store(99, l.Word(layout.GlobSize), 0)
	m.Store(99, l.Proc(0, layout.Turns), 0)
	m.Store(99, l.Proc(0, layout.Preempt), 1)
	y := begin(t, l, m, 0, 0, false)
	y.goes(acts.Load(l.Proc(0, layout.Preempt)), acts.Store(l.Proc(0, layout.Preempt), 0), acts.Load(l.Proc(0, layout.Turns)), acts.Load(l.Word(layout.GlobSize)))
	y.goes(acts.Load(l.Proc(0, layout.Head)), acts.Load(l.Proc(0, layout.Tail)), acts.Load(l.Ring(0, start)))
	y.finds(1, false, acts.Swap(l.Proc(0, layout.Head), start, start+1))
}

// Promise 21.1: where it is the queue's turn, and nothing is there to be pulled, or nothing any more, the own ring comes.
func TestTurnNothingTaken(t *testing.T) {
	for _, gone := range []bool{false, true} {
		l, m := lay(t, 3)
		fill(l, m, 0, api.None, 1)
		m.Store(99, l.Word(layout.GlobSize), 5)
		m.Store(99, l.Proc(0, layout.Turns), 122)
		y := begin(t, l, m, 0, 0, false)
		y.begins()
		y.goes(acts.Load(l.Word(layout.GlobSize)))
		if gone {
			m.Store(99, l.Word(layout.GlobSize), 0)
		}
		y.acquires()
		y.goes(acts.Load(l.Word(layout.GlobSize)))
		if !gone {
			y.goes(acts.Load(l.Word(layout.GlobHead)))
		}
		y.releases()
		y.goes(acts.Load(l.Proc(0, layout.Next)), acts.Load(l.Proc(0, layout.Head)), acts.Load(l.Proc(0, layout.Tail)), acts.Load(l.Ring(0, start)))
		y.finds(1, false, acts.Swap(l.Proc(0, layout.Head), start, start+1))
	}
}

// Promises 21.1 and 21.2: where the own ring has none, as many are taken as one may, without a bound: one is found, the others lie in the ring.
func TestTakesSome(t *testing.T) {
	for _, x := range []struct{ procs, wait, taken int }{{3, 1, 1}, {3, 2, 1}, {3, 3, 2}, {3, 7, 3}, {1, 4, 4}, {64, 64, 2}, {2, 300, api.Half}} {
		for _, spins := range []bool{false, true} {
			l, m := lay(t, x.procs)
			var list []int
			for i := range x.wait {
				list = append(list, gs-1-i)
			}
			queue(t, l, m, list...)
			y := begin(t, l, m, 5, 0, spins)
			y.hasNone()
			y.acquires()
			y.takes(list[:x.taken]...)
			y.findsTaken(list[0])
			y.told(0)
			if got, right := ring.Gs(l, m, 0); !right || !slices.Equal(got, list[1:x.taken]) {
				t.Errorf("the ring: %v", got)
			}
			if got, right := globq.List(l, m); !right || !slices.Equal(got, list[x.taken:]) || m.Bad() != 0 {
				t.Errorf("the queue: %v, bad %d", got, m.Bad())
			}
		}
	}
}

// sizes are some for which one of three processors takes one, two, and many; where none is there, one pull tells.
var sizes = []uint64{1, 3, gs}

// Promise 21.1: where the queue is looked at behind the ring, and nothing is taken, it goes on.
func TestTakesNone(t *testing.T) {
	for _, size := range sizes {
		for _, gone := range []bool{false, true} {
			for _, spins := range []bool{false, true} {
				l, m := lay(t, 3)
				m.Store(99, l.Word(layout.GlobSize), size)
				y := begin(t, l, m, 5, 0, spins)
				y.hasNone()
				if gone {
					m.Store(99, l.Word(layout.GlobSize), 0)
				}
				y.acquires()
				y.goes(acts.Load(l.Word(layout.GlobSize)))
				if !gone {
					y.goes(acts.Load(l.Word(layout.GlobHead)))
				}
				y.releases()
				if spins {
					y.visits(false, 1, 2)
				} else {
					y.considers()
				}
			}
		}
	}
}

// Promise 21.1: of one processor, and without draws, the lock is released right behind the one load that finds none, and all is as where GlobSize was 0.
func TestTakesNoneOfOne(t *testing.T) {
	l, m := acts.Lay(t, api.Config{Procs: 1, Threads: 1, Gs: 1})
	y := begin(t, l, m, 0, 0, false)
	y.goes(acts.Load(l.Proc(0, layout.Preempt)), acts.Load(l.Proc(0, layout.Turns)), acts.Load(l.Word(layout.GlobSize)))
	m.Store(99, l.Word(layout.GlobSize), 2)
	y.goes(acts.Load(l.Proc(0, layout.Next)), acts.Load(l.Proc(0, layout.Head)), acts.Load(l.Proc(0, layout.Tail)), acts.Load(l.Word(layout.GlobSize)))
	y.acquires()
	y.goes(acts.Load(l.Word(layout.GlobSize)), acts.Load(l.Word(layout.GlobHead)))
	y.releases()
	y.considers()
}

// Promises 21.1 and 21.2: a next one, or a ring's first one, that another one took between is not found, and not in the hand.
func TestOwnTakenBetween(t *testing.T) {
	l, m := lay(t, 3)
	fill(l, m, 0, 3, 1, 2)
	y := begin(t, l, m, 5, 0, true)
	y.begins()
	y.goes(acts.Load(l.Proc(0, layout.Next)))
	m.Store(99, l.Proc(0, layout.Next), 0)
	y.goes(acts.Swap(l.Proc(0, layout.Next), 4, 0), acts.Load(l.Proc(0, layout.Head)), acts.Load(l.Proc(0, layout.Tail)), acts.Load(l.Ring(0, start)))
	m.Store(99, l.Proc(0, layout.Head), start+1)
	y.goes(acts.Swap(l.Proc(0, layout.Head), start, start+1), acts.Load(l.Proc(0, layout.Head)), acts.Load(l.Proc(0, layout.Tail)), acts.Load(l.Ring(0, start+1)))
	y.finds(2, false, acts.Swap(l.Proc(0, layout.Head), start+1, 0))
}
