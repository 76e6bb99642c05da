package thread_test

import (
	"math"
	"testing"

	"turnspit/acts"
	"turnspit/api"
	"turnspit/idlep"
	"turnspit/layout"
	"turnspit/ready"
	"turnspit/thread"
	"turnspit/wake"
)

// place is where a goroutine stands, as an arena tells it.
type place struct{ program, at, left, begun int }

// placeOf is where a goroutine stands.
func (y *trial) placeOf(g int) place {
	program, at, left, begun := y.a.Place(g)
	return place{program, at, left, begun}
}

// stands holds where a goroutine stands against where it should.
func (y *trial) stands(g int, want place) {
	y.Helper()
	if got := y.placeOf(g); got != want {
		y.Errorf("%d is at %v, want %v", g, got, want)
	}
}

// noBad holds that no access was bad.
func (y *trial) noBad() {
	y.Helper()
	if y.m.Bad() != 0 {
		y.Errorf("bad: %d", y.m.Bad())
	}
}

// Promises 27.1 and 27.2: one that was found out of the ring starts: its turn is counted, which goes round, and 0 is Preempt, whatever that was; from the store of its Status on it runs by this thread, and is not in the hand; its place is left as it is.
func TestStarts(t *testing.T) {
	for _, preempt := range []uint64{0, 1, round} {
		for _, turns := range []uint64{1, 60, less - 1, less, round + 8} {
			l, m := lay(t)
			fills(l, m, 0, api.None, 4, 5)
			m.Store(99, l.Proc(0, layout.Turns), turns)
			y := begin(t, l, m, arena(t, 9, 7, 3), 0, nil)
			y.finds(nil, thread.Starts)
			y.store(y.proc(layout.Preempt), preempt)
			before := m.Words()
			y.starts(4, false)
			acts.Changed(t, m, before, map[int]uint64{y.g(4): api.GRunning, y.proc(layout.Turns): (turns + 1) % round, y.proc(layout.Preempt): 0})
			y.stands(4, place{1, 0, 0, 1})
			y.noBad()
		}
	}
}

// Promises 27.1 and 27.2: one that inherits starts without a turn of its own; what was asked of the one ahead is asked of it, too.
func TestStartsInherits(t *testing.T) {
	for _, preempt := range []uint64{0, 1, math.MaxUint64} {
		l, m := lay(t)
		fills(l, m, 0, 6, 4)
		m.Store(99, l.G(6, layout.GStatus), api.GRunnable)
		m.Store(99, l.Word(layout.Spinning), 1)
		y := begin(t, l, m, arena(t, 9), 0, nil)
		y.finds(nil, thread.Starts)
		y.store(y.proc(layout.Preempt), preempt)
		before := m.Words()
		y.starts(6, true)
		acts.Changed(t, m, before, map[int]uint64{y.g(6): api.GRunning})
		if preempt == 0 {
			y.obeys(thread.Runs)
			continue
		}
		y.preempted()
	}
}

// spinning is thread 1, which was given processor 1, spins, and found goroutine 5: it counts out next.
func spinning(t *testing.T, next int) *trial {
	t.Helper()
	l, m := lay(t)
	fills(l, m, 1, next, 5)
	m.Store(99, l.Word(layout.Spinning), 1)
	m.Store(99, l.Thread(1, layout.Given), 2+round)
	m.Store(99, l.Thread(1, layout.Note), 1)
	y := begin(t, l, m, arena(t, 9), 1, nil)
	y.plain(acts.Load(l.Thread(1, layout.Note)), acts.Store(l.Thread(1, layout.Note), 0), acts.Load(l.Thread(1, layout.Given)))
	y.want.p, y.want.spins = 1, true
	y.plain(acts.Store(l.Thread(1, layout.Given), 0))
	y.want.does = thread.Finds
	y.plain(acts.Store(y.proc(layout.Status), api.PRunning))
	y.finds(nil, thread.CountsOut)
	return y
}

// wakes wakes some thread, as layer 19 does; then it starts what was found.
func (y *trial) wakes() {
	y.Helper()
	some := wake.NewWake(y.l, y.t)
	y.same(some, func(done bool) api.Event {
		if done {
			y.want.does = thread.Starts
		}
		y.want.hand, y.want.counts = some.Holds(), some.Counts()
		return api.Event{}
	})
}

// Promises 27.1 and 27.2: one that spins, and found one, counts out, and spins no more from that step on; then it wakes some thread: none, where others spin, or another one counts in between, or none is idle; or one, or one that there is not; and then it starts what it found, which is in its hand all the while.
func TestCountsOut(t *testing.T) {
	for i, prepares := range []func(y *trial){
		func(y *trial) {},
		func(y *trial) { y.store(y.word(layout.Spinning), 4) },
		func(y *trial) { acts.All(y, y.m, idlep.New(y.l, 99, 2)); y.store(y.word(layout.Threads), 5) },
		func(y *trial) { acts.All(y, y.m, idlep.New(y.l, 99, 2)) },
		func(y *trial) { y.store(y.word(layout.Spinning), 0) },
	} {
		for _, next := range []int{api.None, 8} {
			y := spinning(t, next)
			prepares(y)
			want := (y.is(y.word(layout.Spinning)) + less) % round
			y.want.spins = false
			y.plain(acts.Add(y.word(layout.Spinning), less))
			if y.is(y.word(layout.Spinning)) != want {
				t.Errorf("Spinning: %d, want %d", y.is(y.word(layout.Spinning)), want)
			}
			y.wakes()
			if w := y.is(y.l.Thread(5, layout.Given)); (w == round+3) != (i == 2) {
				t.Errorf("case %d: given %x", i, w)
			}
			if next == api.None {
				y.starts(5, false)
			} else {
				y.starts(8, true)
			}
			y.noBad()
		}
	}
}

// Promise 27.1: a Swap of Spinning within the wake that is not done, as another one counted in.
func TestCountsOutBetween(t *testing.T) {
	y := spinning(t, api.None)
	y.want.spins = false
	y.plain(acts.Add(y.word(layout.Spinning), less), acts.Load(y.word(layout.Spinning)))
	y.store(y.word(layout.Spinning), 1)
	y.want.does = thread.Starts
	y.plain(acts.Swap(y.word(layout.Spinning), 0, 1))
	y.starts(5, false)
}

// Promises 27.1 and 27.2: a goroutine that computes: at each step Preempt is loaded, and nothing else done; its steps are its program's.
func TestComputes(t *testing.T) {
	y := running(t, 9+16, 1) // InCompute of 4, and of 1
	before := y.m.Words()
	for i, want := range []place{{0, 0, 3, 1}, {0, 0, 2, 1}, {0, 0, 1, 1}, {0, 1, 0, 1}, {0, 2, 0, 1}} {
		y.obeys(thread.Runs)
		y.stands(0, want)
		if i == 2 {
			y.store(y.g(0), api.GDead) // what others store is not its affair
			before[y.g(0)] = api.GDead
		}
	}
	acts.Changed(t, y.m, before, nil)
}

// preempted does what comes of a goroutine that is preempted: the load of Preempt, and all that follows, until it finds one.
func (y *trial) preempted() {
	y.Helper()
	g := y.want.g
	at := y.placeOf(g)
	y.obeys(thread.Gives)
	y.stands(g, at)
	y.gives(giveOf(y, ready.Preempted), api.EvPreempt)
	y.stands(g, at)
}

// Promises 27.1 and 27.2: one whose Preempt is not 0 is preempted ahead of its next step, whatever that is: it is runnable, in the hand, and lies behind the global queue; Preempt stays as it is, and is taken when one is found: afresh.
func TestPreempted(t *testing.T) {
	for _, preempt := range []uint64{1, 2, round, 1 << 63, math.MaxUint64} {
		for _, words := range [][]uint64{{9}, {0}, {2}, {3}, {4}, {5}, {6}} {
			y := running(t, words...)
			y.store(y.proc(layout.Preempt), preempt)
			y.preempted()
			if w := y.is(y.proc(layout.Preempt)); w != preempt {
				t.Errorf("Preempt: %d", w)
			}
			y.plain(acts.Load(y.proc(layout.Preempt)), acts.Store(y.proc(layout.Preempt), 0))
			y.noBad()
		}
	}
}

// Promise 27.1: one that gives way within an InCompute goes on with what was left of it.
func TestPreemptedWithin(t *testing.T) {
	y := running(t, 25) // InCompute of 4
	y.obeys(thread.Runs)
	y.store(y.proc(layout.Preempt), 1)
	y.preempted()
	y.stands(0, place{0, 0, 3, 1})
	y.finds(nil, thread.Starts)
	y.starts(0, false)
	y.obeys(thread.Runs)
	y.stands(0, place{0, 0, 2, 1})
}

// Promise 27.2: where a goroutine runs that there is not, it ends, at no place; nothing panics.
func TestNoSuchGoroutine(t *testing.T) {
	for _, w := range []uint64{gs + 1, round, 1 << 63, math.MaxUint64} {
		l, m := lay(t)
		fills(l, m, 0, api.None, int(w-1))
		m.Store(99, l.Word(layout.Spinning), 1)
		y := begin(t, l, m, arena(t, 3), 0, nil)
		y.finds(nil, thread.Starts)
		y.starts(int(w-1), false)
		y.obeys(thread.Ends)
		y.ends()
	}
}

// Promise 27.2: an answer of Holds that is changed changes nothing; two answers share nothing.
func TestHoldsIsNew(t *testing.T) {
	y := running(t, 3)
	y.obeys(thread.Gives)
	y.x.Step(y.m)
	a, b := y.x.Holds(), y.x.Holds()
	a[0] = 77
	_ = append(a, 5)
	if b[0] != 0 || y.x.Holds()[0] != 0 {
		t.Errorf("Holds: %v, %v", b, y.x.Holds())
	}
}
