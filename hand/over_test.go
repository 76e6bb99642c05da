package hand_test

import (
	"math"
	"slices"
	"testing"

	"turnspit/acts"
	"turnspit/api"
	"turnspit/idlem"
	"turnspit/idlep"
	"turnspit/layout"
	"turnspit/lock"
	"turnspit/wake"
)

// works are ways in which a ring is not empty, each with what is stored for it.
func works(y *trial) []map[int]uint64 {
	return []map[int]uint64{
		{y.proc(layout.Tail): start + 1},
		{y.proc(layout.Tail): 2},
		{y.proc(layout.Head): start - 1},
		{y.proc(layout.Next): 4},
		{y.proc(layout.Tail): 0, y.proc(layout.Next): 1},
	}
}

// spreads stores some words.
func (y *trial) spreads(words map[int]uint64) {
	for at, w := range words {
		y.m.Store(99, at, w)
	}
}

// started are the words behind a thread that was started, the one that is made behind had, given so.
func (y *trial) started(had int, also uint64, want map[int]uint64) map[int]uint64 {
	want[y.l.Ticket(0)], want[y.l.Serving(0)], want[y.l.Owner(0)] = 0, 0, 0
	want[y.word(layout.Threads)] = uint64(had) + 1
	want[y.l.Thread(had, layout.Given)] = uint64(y.p) + 1 + also
	want[y.l.Thread(had, layout.Note)] = 1
	return want
}

// noBad holds that no access was bad.
func (y *trial) noBad() {
	y.Helper()
	if y.m.Bad() != 0 {
		y.Errorf("bad: %d", y.m.Bad())
	}
}

// Promises 25.1 and 25.2: a ring that has some, or a Next: a thread is started at once, not spinning; neither the queue, nor Spinning, IdlePs, or Needs is asked; nothing else is touched.
func TestRingHasSome(t *testing.T) {
	for i, who := range whos {
		for p := range procs {
			for k := range 5 {
				l, m := lay(t)
				y := begin(t, l, m, who, p)
				y.spreads(works(y)[k])
				had := []int{0, 4, threads - 1}[(i+k)%3]
				y.spreads(map[int]uint64{y.word(layout.GlobSize): 3, y.word(layout.Spinning): uint64(i % 3), y.word(layout.Needs): uint64(k % 2), y.word(layout.Threads): uint64(had)})
				before := m.Words()
				y.looks()
				y.acquiresToStart()
				y.starts(0)
				acts.Changed(t, m, before, y.started(had, 0, map[int]uint64{}))
				y.noBad()
			}
		}
	}
}

// Promises 25.1 and 25.2: an empty ring, and something in the queue: GlobSize alone tells; a thread is started, not spinning.
func TestQueueHasSome(t *testing.T) {
	for i, size := range []uint64{1, 2, round, 1 << 63, math.MaxUint64} {
		l, m := lay(t)
		y := begin(t, l, m, whos[i], i%procs)
		y.spreads(map[int]uint64{y.word(layout.GlobSize): size, y.word(layout.Needs): 1, y.word(layout.Threads): 6})
		before := m.Words()
		y.looks()
		y.load(layout.GlobSize)
		y.acquiresToStart()
		y.starts(0)
		acts.Changed(t, m, before, y.started(6, 0, map[int]uint64{}))
		y.noBad()
	}
	l, m := lay(t)
	y := begin(t, l, m, 3, 2)
	y.spreads(map[int]uint64{y.word(layout.GlobHead): 1, y.word(layout.GlobTail): 1}) // GlobSize tells of none
	y.looks()
	y.load(layout.GlobSize, layout.Spinning, layout.IdlePs)
}

// Promises 25.1 and 25.2: nobody spins, and none is idle: it counts itself in from the Swap on, until it has the lock; whoever was needed is not any more; a thread is started, spinning.
func TestNobodySpins(t *testing.T) {
	for i, who := range whos {
		for p := range procs {
			l, m := lay(t)
			y := begin(t, l, m, who, p)
			had := []int{0, 9, threads - 1}[(i+p)%3]
			y.spreads(map[int]uint64{y.word(layout.Needs): uint64(i % 2), y.word(layout.Threads): uint64(had)})
			before := m.Words()
			y.looks()
			y.load(layout.GlobSize, layout.Spinning, layout.IdlePs)
			y.countsIn()
			y.acquiresToStart()
			y.starts(spins)
			acts.Changed(t, m, before, y.started(had, spins, map[int]uint64{y.word(layout.Needs): 0, y.word(layout.Spinning): 1}))
			y.noBad()
		}
	}
}

// lieBehind are the words behind a processor that was laid on the list, on which some lay.
func (y *trial) lieBehind(list ...int) map[int]uint64 {
	want := map[int]uint64{y.l.Ticket(0): 0, y.l.Serving(0): 0, y.l.Owner(0): 0}
	want[y.word(layout.IdleP)], want[y.word(layout.IdlePs)] = uint64(y.p)+1, uint64(len(list))+1
	want[y.word(layout.Mask)], want[y.proc(layout.PLink)] = idlep.Bit(y.p), 0
	for _, q := range list {
		want[y.word(layout.Mask)] |= idlep.Bit(q)
		want[y.proc(layout.PLink)] = uint64(q) + 1
	}
	return want
}

// Promises 25.1 and 25.2: somebody spins: IdlePs is not asked for; with the lock, nothing in the queue and nobody needed, it lies on the list; its Status is left as it is.
func TestSomebodySpins(t *testing.T) {
	for i, spinning := range []uint64{1, 2, round, 1 << 63, math.MaxUint64, less} {
		for p := range procs {
			l, m := lay(t)
			y := begin(t, l, m, whos[i], p)
			y.spreads(map[int]uint64{y.word(layout.Spinning): spinning})
			before := m.Words()
			y.looks()
			y.load(layout.GlobSize, layout.Spinning)
			y.acquires()
			y.load(layout.GlobSize, layout.Needs)
			y.lies()
			acts.Changed(t, m, before, y.lieBehind())
			y.noBad()
		}
	}
}

// Promises 25.1 and 25.2: nobody spins, and some are idle, of which IdlePs alone tells: no Swap is tried; it lies ahead of them on the list.
func TestSomeIdle(t *testing.T) {
	for i, who := range whos {
		l, m := lay(t)
		y := begin(t, l, m, who, 2)
		idle := [][]int{{3}, {4, 0}, {0, 1, 3}}[i%3]
		for _, q := range idle {
			acts.All(t, m, idlep.New(l, 99, q))
		}
		before := m.Words()
		y.looks()
		y.load(layout.GlobSize, layout.Spinning, layout.IdlePs)
		y.acquires()
		y.load(layout.GlobSize, layout.Needs)
		y.lies()
		acts.Changed(t, m, before, y.lieBehind(idle...))
		if list, right := idlep.List(l, m); !right || len(list) != len(idle)+1 || list[0] != 2 {
			t.Errorf("List: %v, %v", list, right)
		}
		y.noBad()
	}
	for _, many := range []uint64{1, round, 1 << 63} {
		l, m := lay(t)
		y := begin(t, l, m, 3, 2)
		y.spreads(map[int]uint64{y.word(layout.IdlePs): many})
		y.looks()
		y.load(layout.GlobSize, layout.Spinning, layout.IdlePs)
		y.acquires()
		y.load(layout.GlobSize, layout.Needs)
		y.lies()
	}
}

// misses goes on until the Swap, which is not done, as somebody counted in between.
func (y *trial) misses(spinning uint64) {
	y.Helper()
	y.looks()
	y.load(layout.GlobSize, layout.Spinning, layout.IdlePs)
	y.spreads(map[int]uint64{y.word(layout.Spinning): spinning})
	y.goes(acts.Swap(y.word(layout.Spinning), 0, 1))
}

// Promises 25.1 and 25.2: a Swap of Spinning that is not done: it does not count, Needs is left as it is, and it goes on as where somebody spins.
func TestSwapNotDone(t *testing.T) {
	for i, spinning := range []uint64{1, 2, round, math.MaxUint64} {
		l, m := lay(t)
		y := begin(t, l, m, whos[i], i)
		before := m.Words()
		y.misses(spinning)
		y.acquires()
		y.load(layout.GlobSize, layout.Needs)
		y.lies()
		want := y.lieBehind()
		want[y.word(layout.Spinning)] = spinning
		acts.Changed(t, m, before, want)
		y.noBad()
	}
}

// ways are the ways to the lock without work, each with what is stored ahead.
var ways = map[string]func(y *trial){
	"spins": func(y *trial) {
		y.spreads(map[int]uint64{y.word(layout.Spinning): 1})
		y.looks()
		y.load(layout.GlobSize, layout.Spinning)
	},
	"idle": func(y *trial) {
		y.spreads(map[int]uint64{y.word(layout.IdlePs): 1})
		y.looks()
		y.load(layout.GlobSize, layout.Spinning, layout.IdlePs)
	},
	"swap": func(y *trial) { y.misses(3) },
}

// Promises 25.1 and 25.2: a queue that is filled before the lock is had, on each way to it: a thread is started, not spinning, and Needs is not asked for.
func TestQueueFilled(t *testing.T) {
	for name, goes := range ways {
		for i, size := range []uint64{1, 2, round, math.MaxUint64} {
			l, m := lay(t)
			y := begin(t, l, m, whos[i], i)
			goes(y)
			y.spreads(map[int]uint64{y.word(layout.GlobSize): size, y.word(layout.Needs): 1})
			before := m.Words()
			y.acquires()
			y.load(layout.GlobSize)
			y.starts(0)
			acts.Changed(t, m, before, y.started(0, 0, map[int]uint64{}))
			y.noBad()
			if t.Failed() {
				t.Fatalf("%s", name)
			}
		}
	}
}

// Promises 25.1 and 25.2: Needs is told, on each way to the lock: it counts from the Add on, which goes round, until Needs is 0; then a thread is started, spinning.
func TestNeeded(t *testing.T) {
	for name, goes := range ways {
		for i, needs := range []uint64{1, 2, round, math.MaxUint64} {
			l, m := lay(t)
			y := begin(t, l, m, whos[i], i)
			goes(y)
			spinning := []uint64{1, 0, less, round + 4}[i]
			y.spreads(map[int]uint64{y.word(layout.Needs): needs, y.word(layout.Spinning): spinning, y.word(layout.Threads): 5})
			before := m.Words()
			y.acquires()
			y.load(layout.GlobSize, layout.Needs)
			y.want.counts = true
			y.goes(acts.Add(y.word(layout.Spinning), 1))
			y.begins(acts.Store(y.word(layout.Needs), 0))
			y.starts(spins)
			acts.Changed(t, m, before, y.started(5, spins, map[int]uint64{y.word(layout.Needs): 0, y.word(layout.Spinning): (spinning + 1) % round}))
			y.noBad()
			if t.Failed() {
				t.Fatalf("%s", name)
			}
		}
	}
}

// Promises 25.1 and 25.2: no thread to be had: the processor is left again, whatever it was that a thread was to be started for; it does not lie on the list; who counted counts out.
func TestLeft(t *testing.T) {
	for i, who := range whos {
		for p := range procs {
			l, m := lay(t)
			y := begin(t, l, m, who, p)
			y.full()
			y.spreads(works(y)[(i+p)%5])
			before := m.Words()
			y.looks()
			y.acquiresToStart()
			y.lacks(false)
			left := map[int]uint64{l.Ticket(0): 0, l.Serving(0): 0, l.Owner(0): 0, y.word(layout.Needs): 1, y.proc(layout.Status): api.PSyscall}
			acts.Changed(t, m, before, left)

			l, m = lay(t)
			y = begin(t, l, m, who, p)
			y.full()
			before = m.Words()
			y.looks()
			y.load(layout.GlobSize, layout.Spinning, layout.IdlePs)
			y.countsIn()
			y.acquiresToStart()
			y.lacks(true)
			acts.Changed(t, m, before, left)

			l, m = lay(t)
			y = begin(t, l, m, who, p)
			y.full()
			ways["spins"](y)
			y.spreads(map[int]uint64{y.word(layout.Needs): 1})
			y.acquires()
			y.load(layout.GlobSize, layout.Needs)
			y.want.counts = true
			y.goes(acts.Add(y.word(layout.Spinning), 1))
			y.begins(acts.Store(y.word(layout.Needs), 0))
			y.lacks(true)
			left[y.word(layout.Spinning)] = 1
			acts.Changed(t, m, before, left)
			y.noBad()
		}
	}
}

// Promise 25.1: an idle thread is started ahead of a new one.
func TestIdleThread(t *testing.T) {
	l, m := lay(t)
	m.Store(99, l.Word(layout.Threads), 30)
	acts.All(t, m, idlem.New(l, 99, 12))
	acts.All(t, m, idlem.New(l, 99, 25))
	y := begin(t, l, m, threads, 4)
	y.spreads(works(y)[3])
	acts.All(t, m, y.x)
	if w := y.is(l.Thread(25, layout.Given)); w != wake.Word(4, false) || y.is(l.Thread(25, layout.Note)) != 1 || y.is(y.word(layout.Threads)) != 30 {
		t.Errorf("given %x", w)
	}
	if list, _ := idlem.List(l, m); !slices.Equal(list, []int{12}) {
		t.Errorf("List: %v", list)
	}
}

// Promise 25.1: who waits for the lock does nothing else until it has it: it counts all the while, if it does, and goes by what lies there then.
func TestWaits(t *testing.T) {
	for _, counts := range []bool{false, true} {
		l, m := lay(t)
		y := begin(t, l, m, threads, 1)
		if counts {
			y.looks()
			y.load(layout.GlobSize, layout.Spinning, layout.IdlePs)
			y.countsIn()
		} else {
			ways["spins"](y)
		}
		acts.All(t, m, lock.New(l, 0, 50))
		y.goes(acts.Add(l.Ticket(0), 1))
		for range 20 {
			y.goes(acts.Load(l.Serving(0)))
		}
		y.spreads(map[int]uint64{y.word(layout.GlobSize): 1, y.word(layout.Threads): 8})
		acts.All(t, m, lock.NewRelease(l, 0, 50))
		y.goes(acts.Load(l.Serving(0)))
		y.begins(acts.Store(l.Owner(0), threads+1))
		if counts {
			y.starts(spins) // it does not look at the queue any more
			continue
		}
		y.load(layout.GlobSize)
		y.starts(0)
	}
}

// Promise 25.1: what is laid into the ring once that was looked at is not seen; what lies there until then is.
func TestRingBetween(t *testing.T) {
	l, m := lay(t)
	y := begin(t, l, m, 3, 1)
	y.goes(acts.Load(y.proc(layout.Head)), acts.Load(y.proc(layout.Tail)), acts.Load(y.proc(layout.Next)))
	y.spreads(map[int]uint64{y.proc(layout.Next): 5})
	y.goes(acts.Load(y.proc(layout.Tail)))
	y.load(layout.GlobSize)

	l, m = lay(t)
	y = begin(t, l, m, 3, 1)
	y.goes(acts.Load(y.proc(layout.Head)), acts.Load(y.proc(layout.Tail)), acts.Load(y.proc(layout.Next)))
	y.spreads(map[int]uint64{y.proc(layout.Tail): start + 1})
	y.goes(acts.Load(y.proc(layout.Tail)))
	y.acquiresToStart()
}

// Promise 25.1: a processor that there is not has an empty ring, and is given, left again, or lies on the list, as its number says.
func TestNoSuchProcessor(t *testing.T) {
	for i, p := range nones {
		l, m := lay(t)
		y := begin(t, l, m, whos[i], p)
		y.looks()
		y.load(layout.GlobSize, layout.Spinning, layout.IdlePs)
		y.countsIn()
		y.acquiresToStart()
		y.starts(spins)
		if m.Bad() != 4 {
			t.Errorf("bad: %d", m.Bad())
		}
		l, m = lay(t)
		y = begin(t, l, m, whos[i], p)
		y.full()
		y.spreads(map[int]uint64{y.word(layout.GlobSize): 1})
		y.looks()
		y.load(layout.GlobSize)
		y.acquiresToStart()
		y.lacks(false)
		l, m = lay(t)
		y = begin(t, l, m, whos[i], p)
		ways["spins"](y)
		y.acquires()
		y.load(layout.GlobSize, layout.Needs)
		y.lies()
	}
}

// The chapter's example: of a processor whose ring has 3, a thread is given it.
func TestExample(t *testing.T) {
	l, m := acts.Lay(t, api.Config{Procs: 1, Threads: 2, Gs: 4})
	m.Store(99, l.Word(layout.Threads), 1)
	m.Store(99, l.Ring(0, 0), 4)
	m.Store(99, l.Proc(0, layout.Tail), 1)
	y := begin(t, l, m, 2, 0)
	acts.All(t, m, y.x)
	y.want.p = api.None
	y.rests()
	if w := y.is(l.Thread(1, layout.Given)); w != 1 || m.Bad() != 0 {
		t.Errorf("given %d; bad %d", w, m.Bad())
	}
}
