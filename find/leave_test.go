package find_test

import (
	"math"
	"slices"
	"testing"

	"turnspit/acts"
	"turnspit/api"
	"turnspit/globq"
	"turnspit/idlem"
	"turnspit/idlep"
	"turnspit/layout"
	"turnspit/ring"
)

// busy lets a thread that does not spin not begin to.
func (y *trial) busy() {
	y.m.Store(99, y.word(layout.Spinning), uint64(y.l.Config().Procs))
}

// looksLast does 1. to 6., where there is nothing, and loads GlobSize with the lock.
func (y *trial) looksLast() {
	y.Helper()
	y.hasNone()
	if y.want.spins {
		y.rounds()
	} else {
		y.considers()
	}
	y.acquires()
}

// leaves does 1. to 7., of a thread that spins, where there is nothing: it has no processor then, and does not spin.
func (y *trial) leaves() {
	y.Helper()
	y.looksLast()
	y.goes(acts.Load(y.word(layout.GlobSize)))
	y.putsProc()
	y.countsOut()
	y.releases()
}

// sees looks at rings, one by one, which are empty.
func (y *trial) sees(qs ...int) {
	y.Helper()
	for _, q := range qs {
		y.goes(acts.Load(y.word(layout.Mask)), acts.Load(y.l.Proc(q, layout.Head)), acts.Load(y.l.Proc(q, layout.Tail)), acts.Load(y.l.Proc(q, layout.Next)), acts.Load(y.l.Proc(q, layout.Tail)))
	}
}

// looksBehind does 8., where GlobSize is 0.
func (y *trial) looksBehind() {
	y.Helper()
	y.acquires()
	y.goes(acts.Load(y.word(layout.GlobSize)))
	y.releases()
}

// Promises 21.1 and 21.2: where GlobSize is not 0 at the last look, some are taken, and found, and the processor stays its own; where nothing is there to be pulled, it begins anew.
func TestLastLook(t *testing.T) {
	for _, spins := range []bool{false, true} {
		for _, needs := range []uint64{0, 1} {
			l, m := lay(t, 3)
			y := begin(t, l, m, 5, 1, spins)
			y.busy()
			m.Store(99, l.Word(layout.Needs), needs)
			y.looksLast()
			queue(t, l, m, 8, 2, 6)
			y.goes(acts.Load(l.Word(layout.GlobSize)))
			y.takes(8, 2)
			y.findsTaken(8)
			if got, _ := ring.Gs(l, m, 1); !slices.Equal(got, []int{2}) || y.is(l.Word(layout.Needs)) != needs {
				t.Errorf("the ring: %v", got)
			}

			for _, size := range sizes {
				l, m = lay(t, 3)
				y = begin(t, l, m, 5, 1, spins)
				y.busy()
				y.looksLast()
				m.Store(99, l.Word(layout.GlobSize), size)
				y.goes(acts.Load(l.Word(layout.GlobSize)), acts.Load(l.Word(layout.GlobSize)), acts.Load(l.Word(layout.GlobHead)))
				y.releases()
				y.findsNext(3)
			}
		}
	}
}

// Promises 21.1 and 21.2: where somebody is needed, a thread that does not spin does, and begins anew, with its processor; it goes through all rings then.
func TestNeeded(t *testing.T) {
	for _, needs := range []uint64{1, 2, 1 << 32, math.MaxUint64} {
		l, m := lay(t, 3)
		m.Store(99, l.Word(layout.Needs), needs)
		before := m.Words()
		y := begin(t, l, m, 5, 1, false)
		y.busy()
		y.looksLast()
		y.goes(acts.Load(l.Word(layout.GlobSize)), acts.Load(l.Word(layout.Needs)))
		y.spins()
		y.releases()
		acts.Changed(t, m, before, map[int]uint64{l.Word(layout.Spinning): 4, l.Word(layout.Needs): 0, l.Ticket(0): 0, l.Serving(0): 0, l.Owner(0): 0})
		y.hasNone()
		y.rounds()
		y.told(4)
	}
}

// Promises 21.1 and 21.2: a thread that does not spin, and that nobody needs, lets its processor go, and naps, access by access; it begins anew with what it is given, spinning or not.
func TestNaps(t *testing.T) {
	for i, who := range whos {
		for _, given := range []bool{false, true} {
			l, m := lay(t, 3)
			idle(t, l, m, 2)
			acts.All(t, m, idlem.New(l, 99, 9))
			before := m.Words()
			y := begin(t, l, m, who, 1, false)
			y.busy()
			y.looksLast()
			y.goes(acts.Load(l.Word(layout.GlobSize)), acts.Load(l.Word(layout.Needs)))
			y.putsProc()
			y.putsThread()
			y.releases()
			y.sleeps()
			y.told(0)
			acts.Changed(t, m, before, map[int]uint64{
				l.Ticket(0): 0, l.Serving(0): 0, l.Owner(0): 0, l.Word(layout.Spinning): 3,
				l.Proc(1, layout.Status): api.PIdle, l.Proc(1, layout.PLink): 3, l.Word(layout.IdleP): 2, l.Word(layout.IdlePs): 2, l.Word(layout.Mask): 6,
				l.Thread(who, layout.MLink): 10, l.Word(layout.IdleM): uint64(who) + 1, l.Word(layout.IdleMs): 2,
			})
			m.Store(99, l.Word(layout.Mask), 7)
			y.wakes(i, given)
			if y.is(l.Word(layout.Spinning)) != 3 || m.Bad() != 0 {
				t.Errorf("Spinning %d, bad %d", y.is(l.Word(layout.Spinning)), m.Bad())
			}
			y.goesOnAs(given)
		}
	}
}

// goesOnAs begins anew, where there is nothing, and goes through the rings, if it spins; all processors have their bits in Mask.
func (y *trial) goesOnAs(spins bool) {
	y.Helper()
	y.hasNone()
	if !spins {
		y.considers()
		return
	}
	for q := range 3 {
		if q != y.want.p {
			y.goes(acts.Load(y.word(layout.Mask)))
		}
	}
}

// Promises 21.1 and 21.2: a thread that is woken without a processor begins anew with none: what it loads is at no place.
func TestNapsGivenNone(t *testing.T) {
	l, m := lay(t, 3)
	y := begin(t, l, m, 5, 1, false)
	y.busy()
	y.looksLast()
	y.goes(acts.Load(l.Word(layout.GlobSize)), acts.Load(l.Word(layout.Needs)))
	y.putsProc()
	y.putsThread()
	y.releases()
	y.sleeps()
	y.wakes(api.None, false)
	y.goes(acts.Load(api.None), acts.Load(api.None), acts.Load(l.Word(layout.GlobSize)))
}

// Promises 21.1 and 21.2: a thread that spins, and finds nothing, does not ask whether somebody is needed: it lets its processor go, counts itself out, looks at all once more, and comes to rest, access by access.
func TestSpinnerLeaves(t *testing.T) {
	for i, who := range whos {
		for _, given := range []bool{false, true} {
			l, m := lay(t, 3)
			m.Store(99, l.Word(layout.Spinning), 1)
			before := m.Words()
			y := begin(t, l, m, who, 1, true)
			y.leaves()
			y.looksBehind()
			y.sees(0)
			y.goes(acts.Load(l.Word(layout.Mask)))
			y.sees(2)
			y.acquires()
			y.goes(acts.Load(l.Word(layout.Needs)))
			y.putsThread()
			y.releases()
			y.sleeps()
			y.told(4)
			acts.Changed(t, m, before, map[int]uint64{
				l.Ticket(0): 2, l.Serving(0): 2, l.Owner(0): 0, l.Word(layout.Spinning): 0,
				l.Proc(1, layout.Status): api.PIdle, l.Proc(1, layout.PLink): 0, l.Word(layout.IdleP): 2, l.Word(layout.IdlePs): 1, l.Word(layout.Mask): 2,
				l.Thread(who, layout.MLink): 0, l.Word(layout.IdleM): uint64(who) + 1, l.Word(layout.IdleMs): 1,
			})
			y.wakes(i, given)
			y.findsNext(3)
			if m.Bad() != 0 {
				t.Errorf("bad: %d", m.Bad())
			}
		}
	}
}

// Promise 21.1: a thread that spins goes by, though somebody is needed, until it rests; there it is the one, with the processor that it had.
func TestSpinnerNeeded(t *testing.T) {
	l, m := lay(t, 3)
	m.Store(99, l.Word(layout.Spinning), 1)
	m.Store(99, l.Word(layout.Needs), 1)
	y := begin(t, l, m, 5, 1, true)
	y.leaves()
	y.looksBehind()
	y.sees(0)
	y.goes(acts.Load(l.Word(layout.Mask)))
	y.sees(2)
	y.acquires()
	y.goes(acts.Load(l.Word(layout.Needs)))
	y.getsProc(1)
	y.spins()
	y.releases()
	y.runs()
	y.hasNone()
	y.rounds()
	y.told(8)
}

// Promises 21.1 and 21.2: what came into the queue while it counted is taken with a processor that is got, which may be another one; it spins then.
func TestBehindQueue(t *testing.T) {
	for _, other := range []int{0, 1, 2} {
		l, m := lay(t, 3)
		m.Store(99, l.Word(layout.Spinning), 1)
		y := begin(t, l, m, 5, 1, true)
		y.leaves()
		y.acquires()
		queue(t, l, m, 8, 2, 6)
		m.Store(99, l.Word(layout.Needs), 1)
		if other != 1 {
			idle(t, l, m, other)
		}
		y.goes(acts.Load(l.Word(layout.GlobSize)))
		y.getsProc(other)
		y.spins()
		y.takes(8, 2)
		y.releases()
		y.finds(8, false, acts.Store(l.Proc(other, layout.Status), api.PRunning))
		if got, _ := ring.Gs(l, m, other); !slices.Equal(got, []int{2}) || m.Bad() != 0 {
			t.Errorf("the ring: %v, bad %d", got, m.Bad())
		}
		if got, _ := globq.List(l, m); !slices.Equal(got, []int{6}) {
			t.Errorf("the queue: %v", got)
		}
	}
}

// Promises 21.1 and 21.2: where GlobSize is not 0 behind the count, and nothing is there to be pulled, or nothing any more, it begins anew with the processor that was got.
func TestBehindQueueNothing(t *testing.T) {
	for _, size := range sizes {
		for _, gone := range []bool{false, true} {
			l, m := lay(t, 3)
			y := begin(t, l, m, 5, 1, true)
			y.leaves()
			m.Store(99, l.Word(layout.GlobSize), size)
			y.acquires()
			y.goes(acts.Load(l.Word(layout.GlobSize)))
			y.getsProc(1)
			y.spins()
			if gone {
				m.Store(99, l.Word(layout.GlobSize), 0)
			}
			y.goes(acts.Load(l.Word(layout.GlobSize)))
			if !gone {
				y.goes(acts.Load(l.Word(layout.GlobHead)))
			}
			y.releases()
			y.runs()
			y.findsNext(4)
		}
	}
}

// Promises 21.1 and 21.2: where GlobSize is not 0 behind the count, and no processor is to be got, somebody is needed, and the rings are looked at.
func TestBehindQueueNoProcessor(t *testing.T) {
	l, m := lay(t, 3)
	m.Store(99, l.Word(layout.Needs), 0)
	y := begin(t, l, m, 5, 1, true)
	y.leaves()
	acts.All(t, m, idlep.NewGet(l, 99)) // another thread has it now
	queue(t, l, m, 8)
	y.acquires()
	y.goes(acts.Load(l.Word(layout.GlobSize)), acts.Load(l.Word(layout.IdleP)), acts.Store(l.Word(layout.Needs), 1))
	y.releases()
	y.sees(0, 1, 2)
	y.acquires()
	y.goes(acts.Load(l.Word(layout.Needs)), acts.Load(l.Word(layout.IdleP)))
	y.putsThread()
	y.releases()
	y.sleeps()
	if got, _ := globq.List(l, m); !slices.Equal(got, []int{8}) || y.is(l.Word(layout.Needs)) != 1 {
		t.Errorf("the queue: %v, Needs %d", got, y.is(l.Word(layout.Needs)))
	}
}

// Promises 21.1 and 21.2: what came into a ring, or as a next one, while it counted is seen, in whichever ring: it begins anew with a processor that is got, and spins.
func TestBehindRing(t *testing.T) {
	for _, next := range []bool{false, true} {
		for q := range 4 {
			l, m := lay(t, 4)
			y := begin(t, l, m, 5, 1, true)
			y.leaves()
			acts.All(t, m, idlep.NewGet(l, 99)) // another thread has it now: its ring is looked at, too
			if next {
				fill(l, m, q, 6)
			} else {
				fill(l, m, q, api.None, 6)
			}
			y.looksBehind()
			for ahead := range q {
				y.sees(ahead)
			}
			y.sees(q)
			idle(t, l, m, 3)
			y.acquires()
			y.getsProc(3)
			y.spins()
			y.releases()
			y.runs()
			if q == 3 {
				fill(l, m, q, api.None)
				m.Store(99, l.Proc(q, layout.Head), y.is(l.Proc(q, layout.Tail)))
			}
			y.findsNext(8)
		}
	}
}

// Promises 21.1 and 21.2: where a ring is not empty, and no processor is to be got, somebody is needed; no more rings are looked at, and it rests.
func TestBehindRingNoProcessor(t *testing.T) {
	for q := range 3 {
		l, m := lay(t, 3)
		y := begin(t, l, m, 5, 1, true)
		y.leaves()
		acts.All(t, m, idlep.NewGet(l, 99))
		fill(l, m, q, api.None, 6)
		if q < 2 {
			fill(l, m, q+1, api.None, 7)
		}
		y.looksBehind()
		for ahead := range q {
			y.sees(ahead)
		}
		y.sees(q)
		y.acquires()
		y.goes(acts.Load(l.Word(layout.IdleP)), acts.Store(l.Word(layout.Needs), 1))
		y.releases()
		y.acquires()
		if q == 0 {
			y.goes(acts.Load(l.Word(layout.Needs)), acts.Load(l.Word(layout.IdleP)))
			y.putsThread()
			y.releases()
			y.sleeps()
			y.wakes(2, true)
			y.findsNext(9)
			continue
		}
		idle(t, l, m, 2) // one that lies there meanwhile is got: who is needed does not sleep
		y.goes(acts.Load(l.Word(layout.Needs)))
		y.getsProc(2)
		y.spins()
		y.releases()
		y.runs()
		y.begins()
	}
}

// Promise 21.1: a ring whose processor has its bit in Mask is not looked at behind the count, though it has some; Mask is loaded anew for each.
func TestBehindRingMasked(t *testing.T) {
	l, m := lay(t, 64)
	y := begin(t, l, m, 5, 1, true)
	y.leaves()
	for q := range 64 {
		if q%3 == 0 {
			fill(l, m, q, api.None, 6)
		}
	}
	mask := uint64(2)
	for q := 0; q < 64; q += 3 {
		mask |= 1 << q
	}
	m.Store(99, l.Word(layout.Mask), mask)
	y.looksBehind()
	for q := range 64 {
		if q%3 == 0 || q == 1 {
			y.goes(acts.Load(l.Word(layout.Mask)))
		} else {
			y.sees(q)
		}
		if q == 50 {
			m.Store(99, l.Word(layout.Mask), mask&^(1<<63))
		}
		if q == 62 {
			break
		}
	}
	y.sees(63)
	y.acquires()
	y.getsProc(1)
}

// Promises 21.1 and 21.2: it waits for the lock at each place where it is asked for, and goes by what is there when it has it.
func TestWaitsForLock(t *testing.T) {
	l, m := lay(t, 3)
	y := begin(t, l, m, 5, 1, false)
	y.busy()
	y.hasNone()
	y.considers()
	m.Store(99, l.Ticket(0), 0) // another one has it
	y.goes(acts.Add(l.Ticket(0), 1))
	for range 9 {
		y.goes(acts.Load(l.Serving(0)))
	}
	queue(t, l, m, 8)
	m.Store(99, l.Serving(0), 0)
	y.goes(acts.Load(l.Serving(0)), acts.Store(l.Owner(0), 6), acts.Load(l.Word(layout.GlobSize)))
	y.takes(8)
	y.findsTaken(8)
}

// Promises 21.1 and 21.2: a thread may begin anew again and again: each time all is as at first.
func TestBeginsAnewAgain(t *testing.T) {
	l, m := lay(t, 2)
	y := begin(t, l, m, 5, 1, true)
	for n := range 50 {
		m.Store(99, l.Word(layout.Needs), 1)
		y.leaves()
		y.looksBehind()
		y.sees(0)
		y.goes(acts.Load(l.Word(layout.Mask)))
		y.acquires()
		y.goes(acts.Load(l.Word(layout.Needs)))
		y.getsProc(1)
		y.spins()
		y.releases()
		y.runs()
		y.told(4 * (n + 1))
	}
	m.Store(99, l.Proc(1, layout.Turns), 0)
	queue(t, l, m, 3)
	y.begins()
	y.goes(acts.Load(l.Word(layout.GlobSize)))
	y.acquires()
	y.takes(3)
	y.findsTaken(3)
}
