package sysc_test

import (
	"math"
	"slices"
	"testing"

	"turnspit/acts"
	"turnspit/api"
	"turnspit/globq"
	"turnspit/idlep"
	"turnspit/layout"
	"turnspit/lock"
	"turnspit/sysc"
)

// others are Statuses of a processor that was taken, or of which nothing is known.
var others = []uint64{api.PIdle, api.PRunning, 3, round, round + api.PSyscall, 1 << 63, math.MaxUint64}

// taken is an Out at its beginning, whose processor was taken.
func taken(t *testing.T, i, p, g int) *trial {
	t.Helper()
	l, m := lay(t)
	m.Store(99, l.Proc(p, layout.Status), others[i%len(others)])
	return begin(t, l, m, whos[i%len(whos)], p, g)
}

// Promises 24.1 and 24.2: an Out whose processor is still there, access by access: it has that one from the Swap on, and the goroutine runs; idle ones are not asked for; nothing else is touched.
func TestOutStillThere(t *testing.T) {
	for i, who := range whos {
		for _, g := range gsAtEnds {
			for p := range procs {
				l, m := lay(t)
				idle(t, l, m, (p+1)%procs)
				calls := l.Proc(p, layout.Calls)
				was := []uint64{0, 1, 8, round - 1, round, round + 5, math.MaxUint64}[i]
				m.Store(99, calls, was)
				m.Store(99, l.Proc(p, layout.Status), api.PSyscall)
				before := m.Words()
				y := begin(t, l, m, who, p, g)
				y.want.p = p
				y.goes(acts.Swap(y.proc(p), api.PSyscall, api.PRunning), acts.Add(calls, 1))
				y.runs()
				acts.Changed(t, m, before, map[int]uint64{y.status(): api.GRunning, calls: (was + 1) % round, y.proc(p): api.PRunning})
				if m.Bad() != 0 {
					t.Errorf("bad: %d", m.Bad())
				}
			}
		}
	}
}

// Promises 24.1 and 24.2: an Out whose processor was taken, with an idle one to be got, access by access: it has that one, and the goroutine runs; its own one's words are left as they are.
func TestOutAnother(t *testing.T) {
	for i := range whos {
		for _, g := range gsAtEnds {
			for p := range procs {
				other := (p + i) % procs // its own one, too, as that may be idle by now
				y := taken(t, i, p, g)
				idle(t, y.l, y.m, (other+1)%procs, other)
				before := y.m.Words()
				y.misses()
				y.acquires()
				y.gets(other)
				y.releases()
				y.goes(acts.Store(y.proc(other), api.PRunning))
				y.runs()
				acts.Changed(t, y.m, before, locked(y.l, 1, map[int]uint64{
					y.status(): api.GRunning, y.proc(other): api.PRunning,
					y.word(layout.IdleP): uint64((other+1)%procs) + 1, y.word(layout.IdlePs): 1, y.word(layout.Mask): 1 << ((other + 1) % procs),
				}))
				if y.m.Bad() != 0 {
					t.Errorf("bad: %d", y.m.Bad())
				}
			}
		}
	}
}

// Promises 24.1 and 24.2: an Out whose processor was taken, without an idle one, access by access: the goroutine is runnable, and lies behind the queue; the thread has no processor. IdleP alone tells whether there is one.
func TestOutNone(t *testing.T) {
	for i := range whos {
		for _, g := range gsAtEnds {
			for _, queue := range [][]int{nil, {9, 5}} {
				y := taken(t, i, i%procs, g)
				acts.All(t, y.m, globq.New(y.l, 99, queue))
				y.m.Store(99, y.word(layout.IdlePs), 2)
				y.m.Store(99, y.word(layout.Mask), 9)
				before := y.m.Words()
				y.misses()
				y.waits()
				y.acquires()
				y.getsNone()
				head, last, w := y.word(layout.GlobHead), api.None, uint64(g)+1
				if queue != nil {
					head, last = y.l.G(5, layout.GLink), 5
				}
				y.enqueues(last)
				acts.Changed(t, y.m, before, locked(y.l, 1, map[int]uint64{
					head: w, y.status(): api.GRunnable, y.l.G(g, layout.GLink): 0,
					y.word(layout.GlobTail): w, y.word(layout.GlobSize): uint64(len(queue)) + 1,
				}))
				if list, right := globq.List(y.l, y.m); !right || !slices.Equal(list, append(slices.Clone(queue), g)) || y.m.Bad() != 0 {
					t.Errorf("the queue: %v, %v; bad %d", list, right, y.m.Bad())
				}
			}
		}
	}
}

// Promises 24.1 and 24.2: an idle one that goes away before the lock is had, and none comes: the lock is released, and had once more, and the goroutine lies behind the queue.
func TestOutGoesAway(t *testing.T) {
	for i := range whos {
		y := taken(t, i, 2, 4)
		idle(t, y.l, y.m, 3)
		y.misses()
		acts.All(t, y.m, idlep.NewGet(y.l, 98))
		before := y.m.Words()
		y.acquires()
		y.getsNone()
		y.releases()
		y.waits()
		y.acquires()
		y.getsNone()
		y.enqueues(api.None)
		acts.Changed(t, y.m, before, locked(y.l, 2, map[int]uint64{
			y.status(): api.GRunnable, y.l.G(4, layout.GLink): 0,
			y.word(layout.GlobHead): 5, y.word(layout.GlobTail): 5, y.word(layout.GlobSize): 1,
		}))
	}
}

// Promises 24.1 and 24.2: an idle one that comes once the Status is GRunnable, wherever it comes until it is asked for: it has that one, and the goroutine is in the hand, and does not run.
func TestOutComes(t *testing.T) {
	for i := range whos {
		for _, away := range []bool{false, true} {
			for steps := range 4 {
				y := taken(t, i, 2, 4)
				if away {
					idle(t, y.l, y.m, 0)
				}
				y.misses()
				if away {
					acts.All(t, y.m, idlep.NewGet(y.l, 98))
					y.acquires()
					y.getsNone()
					y.releases()
				}
				y.waits()
				y.goes(acts.Acquire(y.l, 0, y.who)[:steps]...)
				idle(t, y.l, y.m, 1, 3)
				y.goes(acts.Acquire(y.l, 0, y.who)[steps:]...)
				before := y.m.Words()
				y.gets(3)
				y.starts()
				acts.Changed(t, y.m, before, map[int]uint64{
					y.l.Owner(0): 0, y.l.Serving(0): peek(y.m, y.l.Ticket(0)), y.proc(3): api.PRunning,
					y.word(layout.IdleP): 2, y.word(layout.IdlePs): 1, y.word(layout.Mask): 2,
				})
				if list, _ := globq.List(y.l, y.m); peek(y.m, y.status()) != api.GRunnable || list != nil || y.m.Bad() != 0 {
					t.Errorf("Status %d, the queue %v, bad %d", peek(y.m, y.status()), list, y.m.Bad())
				}
			}
		}
	}
}

// Promise 24.1: one that comes back once the Swap was not done is not got by it; one that comes between the load of IdleP and the Status is not looked at until the lock is had.
func TestOutLate(t *testing.T) {
	y := taken(t, 0, 2, 4)
	y.goes(acts.Swap(y.proc(2), api.PSyscall, api.PRunning))
	y.m.Store(99, y.proc(2), api.PSyscall)
	y.goes(acts.Load(y.word(layout.IdleP)))
	idle(t, y.l, y.m, 3)
	y.waits()
	y.acquires()
	y.gets(3)
	y.starts()
	if peek(y.m, y.proc(2)) != api.PSyscall {
		t.Errorf("Status: %d", peek(y.m, y.proc(2)))
	}
}

// Promise 24.1: who waits for the lock does nothing else until it has it, at both places, and goes by what lies there then.
func TestOutWaits(t *testing.T) {
	for _, comes := range []bool{false, true} {
		y := taken(t, 3, 2, 4)
		if !comes {
			idle(t, y.l, y.m, 1)
		}
		y.misses()
		if comes {
			y.waits()
		}
		acts.All(t, y.m, lock.New(y.l, 0, 50))
		y.goes(acts.Add(y.l.Ticket(0), 1))
		for range 20 {
			y.goes(acts.Load(y.l.Serving(0)))
		}
		idle(t, y.l, y.m, 3)
		acts.All(t, y.m, lock.NewRelease(y.l, 0, 50))
		y.goes(acts.Load(y.l.Serving(0)), acts.Store(y.l.Owner(0), uint64(y.who)+1))
		y.gets(3)
		if comes {
			y.starts()
			continue
		}
		y.releases()
		y.goes(acts.Store(y.proc(3), api.PRunning))
		y.runs()
	}
}

// Promise 24.1: with a processor that there is not nothing was left, and it goes on as if that had been taken.
func TestOutNoSuchProcessor(t *testing.T) {
	for _, p := range append(nones, procs) {
		l, m := lay(t)
		y := begin(t, l, m, 3, p, 4)
		y.misses()
		y.waits()
		y.acquires()
		y.getsNone()
		y.enqueues(api.None)
		if m.Bad() != 1 {
			t.Errorf("bad: %d", m.Bad())
		}
	}
}

// Promise 24.1: of a goroutine that there is not the words are at no place; it lies in the queue, or runs, or is in the hand, as its number says.
func TestOutNoSuchGoroutine(t *testing.T) {
	for i, g := range append(nones, gs) {
		y := taken(t, i, 2, g)
		y.misses()
		y.waits()
		y.acquires()
		y.getsNone()
		y.enqueues(api.None)
		if y.m.Bad() != 2 {
			t.Errorf("bad: %d", y.m.Bad())
		}
		l, m := lay(t)
		m.Store(99, l.Proc(2, layout.Status), api.PSyscall)
		y = begin(t, l, m, 3, 2, g)
		y.want.p = 2
		y.goes(acts.Swap(y.proc(2), api.PSyscall, api.PRunning), acts.Add(l.Proc(2, layout.Calls), 1))
		y.runs()
	}
}

// Promise 24.1: an IdleP that is no processor, and not 0, is one: it is got, and runs, as its number says.
func TestOutIdlePIsNone(t *testing.T) {
	for i, w := range []uint64{procs + 1, round, 1 << 63, math.MaxUint64} {
		y := taken(t, i, 2, 4)
		y.m.Store(99, y.word(layout.IdleP), w)
		y.misses()
		y.acquires()
		mask := y.word(layout.Mask)
		y.goes(acts.Load(y.word(layout.IdleP)), acts.Load(api.None), acts.Load(mask), acts.Store(mask, 0))
		y.want.p = int(w - 1)
		y.goes(acts.Store(y.word(layout.IdleP), 0), acts.Add(y.word(layout.IdlePs), less))
		y.releases()
		y.goes(acts.Store(api.None, api.PRunning))
		y.runs()
	}
}

// The chapter's example.
func TestExample(t *testing.T) {
	l, m := acts.Lay(t, api.Config{Procs: 1, Threads: 1, Gs: 1})
	in, out := sysc.New(l, 0, 0, 0), sysc.NewOut(l, 0, 0, 0)
	acts.All(t, m, in)
	if m.Clock() != 3 || !in.Went() {
		t.Errorf("in: %d steps", m.Clock())
	}
	acts.All(t, m, out)
	if m.Clock() != 6 || !out.Came() || !out.Runs() || out.P() != 0 || out.Holds() != nil || m.Bad() != 0 {
		t.Errorf("out: %d steps, %v; bad %d", m.Clock(), look(out), m.Bad())
	}
}
