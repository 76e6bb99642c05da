package mon_test

import (
	"math"
	"testing"

	"turnspit/acts"
	"turnspit/api"
	"turnspit/hand"
	"turnspit/idlem"
	"turnspit/idlep"
	"turnspit/layout"
	"turnspit/lock"
	"turnspit/mon"
)

// inCall is a monitor that saw processor p, in the turn 3 and the call 5, at the tick when; the clock is age further now.
func inCall(t *testing.T, p int, when, age uint64) *trial {
	t.Helper()
	y := open(t)
	y.does(p, api.PSyscall)
	y.store(y.proc(p, layout.Turns), 3)
	y.store(y.proc(p, layout.Calls), 5)
	y.now(when)
	y.pass()
	if want := (mon.Row{Turns: 3, When: when, Calls: 5, Since: when}); y.x.Row(p) != want {
		t.Errorf("Row: %v, want %v", y.x.Row(p), want)
	}
	y.now(when + age)
	return y
}

// comes begins a pass, and comes to processor p; the others are idle.
func (y *trial) comes(p int) {
	y.Helper()
	y.begins()
	for q := range p {
		y.idle(q)
	}
	y.load(p, layout.Status)
}

// tooLong does what comes of a processor that is late.
func (y *trial) tooLong(p int) {
	y.Helper()
	y.load(p, layout.Turns)
	y.goes(acts.Store(y.proc(p, layout.Preempt), 1))
}

// leaves does the last access for p, and goes through the others, which are idle.
func (y *trial) leaves(p int, a acts.Act) {
	y.Helper()
	y.last(p, a)
	for q := p + 1; q < procs; q++ {
		y.idle(q)
	}
}

// looks looks at p's ring.
func (y *trial) looks(p int) {
	y.Helper()
	y.load(p, layout.Head, layout.Tail, layout.Next, layout.Tail)
}

// counts looks, with the lock, how many threads there are to be had, up to the last step of the release.
func (y *trial) counts() {
	y.Helper()
	y.goes(acts.Acquire(y.l, 0, threads)...)
	y.goes(acts.Load(y.word(layout.IdleMs)), acts.Load(y.word(layout.Threads)), acts.Load(y.word(layout.IdlePs)), acts.Release(y.l, 0)[0])
}

// takes takes p, which is in its hand from then on.
func (y *trial) takes(p int) {
	y.Helper()
	y.goes(acts.Release(y.l, 0)[1])
	y.want.hand = p
	y.goes(acts.Swap(y.proc(p, layout.Status), api.PSyscall, api.PIdle), acts.Add(y.proc(p, layout.Calls), 1))
}

// handsOver hands p over, as layer 25 does, and tells what that tells; then it goes on with the others, which are idle.
func (y *trial) handsOver(p int) {
	y.Helper()
	over := hand.New(y.l, threads, p)
	acts.Same(y, y.m, still{y.x}, over, false, func() {
		y.want.hand, y.want.counts = over.Holds(), over.Counts()
		if over.Done() && p == procs-1 {
			y.want.between = true
			y.want.passes++
		}
		y.tells()
	})
	for q := p + 1; q < procs; q++ {
		y.idle(q)
	}
}

// works is work in p's ring.
func (y *trial) works(p int) { y.store(y.proc(p, layout.Next), 4) }

// Promises 26.1 and 26.2: a call that it was not seen in: that and now are the row's, whether the ring has some or not; whether the turn is a new one or not.
func TestCallSeen(t *testing.T) {
	for i, calls := range append(words, 0, 4, 6) {
		for p := range procs {
			for _, again := range []bool{false, true} {
				y := inCall(t, p, 100, uint64(i))
				y.store(y.proc(p, layout.Calls), calls)
				y.works(p)
				if again {
					y.store(y.proc(p, layout.Turns), 9)
				}
				before := y.m.Words()
				y.comes(p)
				if again {
					y.rows[p].Turns, y.rows[p].When = 9, 100+uint64(i)
				}
				y.load(p, layout.Turns)
				y.rows[p].Calls, y.rows[p].Since = calls, 100+uint64(i)
				y.leaves(p, acts.Load(y.proc(p, layout.Calls)))
				acts.Changed(t, y.m, before, nil)
			}
		}
	}
}

// Promises 26.1 and 26.2: at first all of a row is 0: a processor in a call whose Calls is 0 was seen in it.
func TestFirstCall(t *testing.T) {
	y := open(t)
	y.does(1, api.PSyscall)
	y.works(1)
	y.comes(1)
	y.load(1, layout.Turns, layout.Calls)
	y.looks(1)
	y.counts()
	y.takes(1)
	y.handsOver(1)
}

// Promises 26.1 and 26.2: in a call for less than Quantum, with work in the ring: the processor is taken all the same, and handed over.
func TestWork(t *testing.T) {
	for i, when := range words {
		for p := range procs {
			y := inCall(t, p, when, uint64(i))
			y.works(p)
			y.store(y.word(layout.Spinning), 2)
			y.comes(p)
			y.load(p, layout.Turns, layout.Calls)
			y.looks(p)
			y.counts()
			y.takes(p)
			y.handsOver(p)
			if w := y.is(y.l.Thread(threads-4, layout.Given)); w != uint64(p)+1 || y.is(y.proc(p, layout.Calls)) != 6 || y.is(y.proc(p, layout.Status)) != api.PIdle || y.m.Bad() != 0 {
				t.Errorf("given %d, Calls %d, Status %d, bad %d", w, y.is(y.proc(p, layout.Calls)), y.is(y.proc(p, layout.Status)), y.m.Bad())
			}
		}
	}
}

// others are Spinning and IdlePs by which others look for work, or could.
var others = [][2]uint64{{1, 0}, {0, 1}, {2, 2}, {round, 0}, {0, round}, {1 << 63, 0}, {0, math.MaxUint64}}

// Promises 26.1 and 26.2: in a call for less than Quantum, without work, while others spin, or are idle: both are loaded, and it is left where it is.
func TestOthers(t *testing.T) {
	for _, o := range others {
		for age := range uint64(20) {
			if age >= 10 {
				age += round - 10 // ticks go round
			}
			for _, when := range []uint64{0, 50, round - 3, math.MaxUint64 - 1} {
				y := inCall(t, 1, when, age)
				y.store(y.word(layout.Spinning), o[0])
				y.store(y.word(layout.IdlePs), o[1])
				before := y.m.Words()
				y.comes(1)
				y.load(1, layout.Turns, layout.Calls)
				y.looks(1)
				y.goes(acts.Load(y.word(layout.Spinning)))
				y.leaves(1, acts.Load(y.word(layout.IdlePs)))
				acts.Changed(t, y.m, before, nil)
			}
		}
	}
}

// Promises 26.1 and 26.2: in a call for less than Quantum, without work, and nobody spins, and none is idle: it is taken, and a thread is given it that spins.
func TestNoOthers(t *testing.T) {
	for age := range uint64(10) {
		y := inCall(t, 2, 50, age)
		y.comes(2)
		y.load(2, layout.Turns, layout.Calls)
		y.looks(2)
		y.goes(acts.Load(y.word(layout.Spinning)), acts.Load(y.word(layout.IdlePs)))
		y.counts()
		y.takes(2)
		y.handsOver(2)
		if w := y.is(y.l.Thread(threads-4, layout.Given)); w != round+3 || y.is(y.word(layout.Spinning)) != 1 {
			t.Errorf("given %x, Spinning %d", w, y.is(y.word(layout.Spinning)))
		}
	}
}

// Promises 26.1 and 26.2: in a call for Quantum and more, without work: it is taken, though others spin, or are idle: then it lies on the list. Its turn is seen anew, so that it is not late.
func TestLongCall(t *testing.T) {
	for _, o := range [][2]uint64{{1, 0}, {0, 1}, {2, 3}} {
		for _, age := range ages {
			if !age.old {
				continue
			}
			y := inCall(t, 0, round-5, age.ticks)
			y.store(y.proc(0, layout.Turns), 4)
			y.store(y.word(layout.Spinning), o[0])
			y.store(y.word(layout.IdlePs), o[1])
			y.comes(0)
			y.rows[0].Turns, y.rows[0].When = 4, round-5+age.ticks
			y.load(0, layout.Turns, layout.Calls)
			y.looks(0)
			y.goes(acts.Load(y.word(layout.Spinning)), acts.Load(y.word(layout.IdlePs)))
			y.counts()
			y.takes(0)
			y.handsOver(0)
			if list, _ := idlep.List(y.l, y.m); len(list) != 1 || list[0] != 0 {
				t.Errorf("List: %v", list)
			}
		}
	}
}

// Promises 26.1 and 26.2: one that is late in a call: 1 is stored as its Preempt; with a call that was not seen it goes on all the same, and the row stays; since stays, too, so that it says how long it was in the call that was seen last.
func TestLateInCall(t *testing.T) {
	for _, calls := range []uint64{5, 6, 0, round - 1, math.MaxUint64} {
		for _, age := range []uint64{10, 11, 400, round - 1} {
			y := inCall(t, 1, 70, age)
			y.store(y.proc(1, layout.Calls), calls)
			y.store(y.word(layout.Spinning), 1)
			y.comes(1)
			y.tooLong(1)
			y.load(1, layout.Calls)
			y.looks(1)
			y.goes(acts.Load(y.word(layout.Spinning)), acts.Load(y.word(layout.IdlePs)))
			y.counts()
			y.takes(1)
			y.handsOver(1)
			if want := (mon.Row{Turns: 3, When: 70, Calls: 5, Since: 70}); y.x.Row(1) != want || y.is(y.proc(1, layout.Calls)) != (calls+1)%round {
				t.Errorf("Row: %v, want %v; Calls %d", y.x.Row(1), want, y.is(y.proc(1, layout.Calls)))
			}
		}
	}
}

// Promise 26.1: one that is late, and was seen in its call not long ago, is left where it is, while others spin: late counts by the turn, this by the call.
func TestLateInShortCall(t *testing.T) {
	for _, age := range []uint64{0, 4, 9} {
		y := inCall(t, 1, 70, 9)
		y.store(y.proc(1, layout.Calls), 6)
		y.store(y.word(layout.Spinning), 1)
		y.pass()
		y.now(79 + age)
		y.comes(1)
		if age == 0 {
			y.load(1, layout.Turns)
		} else {
			y.tooLong(1)
		}
		y.load(1, layout.Calls)
		y.looks(1)
		y.goes(acts.Load(y.word(layout.Spinning)))
		y.leaves(1, acts.Load(y.word(layout.IdlePs)))
	}
}

// Promise 26.1: one that runs is not taken, late or not: its Calls is not asked for.
func TestRunsLate(t *testing.T) {
	y := inCall(t, 1, 70, 30)
	y.does(1, api.PRunning)
	y.works(1)
	y.comes(1)
	y.load(1, layout.Turns)
	y.leaves(1, acts.Store(y.proc(1, layout.Preempt), 1))
}

// Promise 26.1: threads that are to be had must be more than processors that are idle; words from 2^31 on tell of none.
func TestThreads(t *testing.T) {
	const half = 1 << 31
	for _, x := range []struct {
		idleMs, had, idlePs uint64
		taken               bool
	}{
		{0, threads, 0, false}, {0, threads - 1, 0, true}, {0, threads - 1, 1, false}, {0, threads - 2, 1, true}, {0, threads - 2, 2, false}, {0, 0, threads, false}, {0, 0, threads - 1, true},
		{1, threads, 0, true}, {1, threads, 1, false}, {2, threads, 1, true}, {3, threads - 3, 5, true}, {3, threads - 3, 6, false},
		{0, threads + 1, 0, false}, {1, threads + 1, 0, false}, {2, threads + 1, 0, true}, {0, half - 1, 0, false}, {half - 1, half, 0, false}, {half - 1, 0, half, false}, {half, half - 1, 0, false}, {half, 0, half - 1, false},
		{half - 1, threads, 0, true}, {half - 1, 0, half - 1, true}, {half - 1, half - 1, threads - 1, true}, {half - 1, half - 1, threads, false}, {0, 0, half - 1, false},
		{half, 0, 0, false}, {0, half, 0, false}, {0, 0, half, false}, {half, half, 0, false}, {round, 0, 0, false}, {1 << 63, 0, 0, false}, {math.MaxUint64, 0, 0, false},
		{0, round, 0, false}, {0, 1 << 63, 0, false}, {0, math.MaxUint64, 0, false}, {5, math.MaxUint64, 0, false}, {0, 0, round, false}, {0, 0, 1 << 63, false}, {0, 0, math.MaxUint64, false},
	} {
		y := inCall(t, 1, 70, 3)
		y.works(1)
		y.store(y.word(layout.IdleMs), x.idleMs)
		y.store(y.word(layout.Threads), x.had)
		y.store(y.word(layout.IdlePs), x.idlePs)
		before := y.m.Words()
		y.comes(1)
		y.load(1, layout.Turns, layout.Calls)
		y.looks(1)
		y.counts()
		if x.taken {
			y.takes(1)
			y.handsOver(1)
		} else {
			y.leaves(1, acts.Release(y.l, 0)[1])
			acts.Changed(t, y.m, before, map[int]uint64{y.l.Ticket(0): 0, y.l.Serving(0): 0, y.l.Owner(0): 0})
		}
		if t.Failed() {
			t.Fatalf("%v", x)
		}
	}
}

// Promises 26.1 and 26.2: a Swap that is not done, as the thread came out meanwhile: it is not in the hand, Calls stays, and the next one comes.
func TestCameOut(t *testing.T) {
	for _, status := range []uint64{api.PRunning, api.PIdle, 3, round + api.PSyscall} {
		for p := range procs {
			y := inCall(t, p, 70, 3)
			y.works(p)
			y.comes(p)
			y.load(p, layout.Turns, layout.Calls)
			y.looks(p)
			y.counts()
			y.does(p, status)
			before := y.m.Words()
			y.goes(acts.Release(y.l, 0)[1])
			y.leaves(p, acts.Swap(y.proc(p, layout.Status), api.PSyscall, api.PIdle))
			acts.Changed(t, y.m, before, map[int]uint64{y.l.Serving(0): 0})
		}
	}
}

// Promises 26.1 and 26.2: one that came out, and went in anew, meanwhile, is taken: Status alone tells.
func TestCameOutAndIn(t *testing.T) {
	y := inCall(t, 1, 70, 3)
	y.works(1)
	y.comes(1)
	y.load(1, layout.Turns, layout.Calls)
	y.looks(1)
	y.counts()
	y.store(y.proc(1, layout.Calls), 7)
	y.takes(1)
	if w := y.is(y.proc(1, layout.Calls)); w != 8 {
		t.Errorf("Calls: %d", w)
	}
	y.handsOver(1)
}

// Promise 26.2: where all threads are had once the lock is released, the processor is left again: it is in the hand until then.
func TestLeftAgain(t *testing.T) {
	for _, work := range []bool{false, true} {
		for p := range procs {
			y := inCall(t, p, 70, 3)
			if work {
				y.works(p)
			}
			y.comes(p)
			y.load(p, layout.Turns, layout.Calls)
			y.looks(p)
			if !work {
				y.goes(acts.Load(y.word(layout.Spinning)), acts.Load(y.word(layout.IdlePs)))
			}
			y.counts()
			y.takes(p)
			y.store(y.word(layout.Threads), threads)
			y.handsOver(p)
			if y.is(y.proc(p, layout.Status)) != api.PSyscall || y.is(y.word(layout.Needs)) != 1 || y.is(y.word(layout.Spinning)) != 0 {
				t.Errorf("Status %d, Needs %d, Spinning %d", y.is(y.proc(p, layout.Status)), y.is(y.word(layout.Needs)), y.is(y.word(layout.Spinning)))
			}
		}
	}
}

// Promise 26.1: who waits for the lock does nothing else until it has it, and goes by what is there then.
func TestWaits(t *testing.T) {
	y := inCall(t, 1, 70, 3)
	y.works(1)
	y.store(y.word(layout.Threads), threads)
	y.comes(1)
	y.load(1, layout.Turns, layout.Calls)
	y.looks(1)
	acts.All(t, y.m, lock.New(y.l, 0, 5))
	y.goes(acts.Add(y.l.Ticket(0), 1))
	for range 20 {
		y.goes(acts.Load(y.l.Serving(0)))
	}
	acts.All(t, y.m, idlem.New(y.l, 5, 8))
	acts.All(t, y.m, lock.NewRelease(y.l, 0, 5))
	y.goes(acts.Load(y.l.Serving(0)), acts.Store(y.l.Owner(0), threads+1))
	y.goes(acts.Load(y.word(layout.IdleMs)), acts.Load(y.word(layout.Threads)), acts.Load(y.word(layout.IdlePs)), acts.Release(y.l, 0)[0])
	y.takes(1)
	y.handsOver(1)
	if w := y.is(y.l.Thread(8, layout.Given)); w != 2 {
		t.Errorf("given %d", w)
	}
}

// Promise 26.1: processors of all kinds in one pass, each looked after by itself: one late, one in a call that is handed over, one in a call that is seen; and once more.
func TestAllInOnePass(t *testing.T) {
	y := open(t)
	for p := range procs {
		y.does(p, api.PSyscall)
		y.store(y.proc(p, layout.Turns), 3)
		y.store(y.proc(p, layout.Calls), 5)
	}
	y.does(0, api.PRunning)
	y.now(100)
	y.pass()
	y.now(112)
	y.works(1)
	y.store(y.proc(2, layout.Calls), 6)
	y.store(y.proc(2, layout.Turns), 4)
	y.comes(0)
	y.tooLong(0)
	y.load(1, layout.Status)
	y.tooLong(1)
	y.load(1, layout.Calls)
	y.looks(1)
	y.counts()
	y.takes(1)
	over := hand.New(y.l, threads, 1)
	acts.Same(t, y.m, still{y.x}, over, false, func() {
		y.want.hand, y.want.counts = over.Holds(), over.Counts()
		y.tells()
	})
	y.load(2, layout.Status)
	y.rows[2].Turns, y.rows[2].When = 4, 112
	y.load(2, layout.Turns)
	y.rows[2].Calls, y.rows[2].Since = 6, 112
	y.last(2, acts.Load(y.proc(2, layout.Calls)))
	if y.m.Bad() != 0 {
		t.Errorf("bad: %d", y.m.Bad())
	}
}
