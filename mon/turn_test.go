package mon_test

import (
	"math"
	"testing"

	"turnspit/acts"
	"turnspit/api"
	"turnspit/layout"
	"turnspit/mon"
)

// Promises 26.1 and 26.2: processors that neither run, nor were left in a call: their Status alone is loaded, and their rows stay; nothing is changed.
func TestIdle(t *testing.T) {
	for _, status := range []uint64{api.PIdle, 3, round, round + api.PRunning, round + api.PSyscall, 1 << 63, math.MaxUint64} {
		y := open(t)
		for p := range procs {
			y.does(p, status)
			y.store(y.proc(p, layout.Turns), 5)
			y.store(y.proc(p, layout.Next), 1)
		}
		y.now(100)
		before := y.m.Words()
		for range 3 {
			y.begins()
			y.idle(0, 1, 2)
		}
		acts.Changed(t, y.m, before, nil)
		if y.x.Passes() != 3 || y.m.Bad() != 0 {
			t.Errorf("passes %d, bad %d", y.x.Passes(), y.m.Bad())
		}
	}
}

// words are numbers of turns, calls and ticks at the edges.
var words = []uint64{1, 2, 61, round - 1, round, 1 << 63, math.MaxUint64}

// Promises 26.1 and 26.2: a turn that it did not see: it and now are the row's; of a processor that runs that is all.
func TestTurnSeen(t *testing.T) {
	for i, turns := range words {
		for p := range procs {
			y := open(t)
			now := words[(i+p)%len(words)]
			y.does(p, api.PRunning)
			y.store(y.proc(p, layout.Turns), turns)
			y.store(y.proc(p, layout.Calls), 8)
			y.now(now)
			before := y.m.Words()
			y.begins()
			for q := range p {
				y.idle(q)
			}
			y.load(p, layout.Status)
			y.rows[p] = mon.Row{Turns: turns, When: now}
			y.last(p, acts.Load(y.proc(p, layout.Turns)))
			for q := p + 1; q < procs; q++ {
				y.idle(q)
			}
			acts.Changed(t, y.m, before, nil)
		}
	}
}

// ages are how many ticks lie between two, and whether that is Quantum or more.
var ages = []struct {
	ticks uint64
	old   bool
}{{0, false}, {1, false}, {9, false}, {10, true}, {11, true}, {61, true}, {1 << 31, true}, {round - 1, true}, {round, false}, {round + 9, false}, {round + 10, true}}

// Promises 26.1 and 26.2: a processor that runs on with its turn: with less than Quantum between it is left alone; with just Quantum, and more, 1 is stored as its Preempt, and its row stays. Ticks go round.
func TestRunsOn(t *testing.T) {
	for _, age := range ages {
		for _, when := range []uint64{0, 1, 77, round - 1, round - 5, round + 3, math.MaxUint64 - 4} {
			for p := range procs {
				y := open(t)
				y.does(p, api.PRunning)
				y.store(y.proc(p, layout.Turns), 3)
				y.store(y.proc(p, layout.Preempt), 6)
				y.now(when)
				y.pass()
				y.now(when + age.ticks)
				before := y.m.Words()
				for range 2 { // it is told in each pass anew
					y.begins()
					for q := range p {
						y.idle(q)
					}
					y.load(p, layout.Status)
					if age.old {
						y.load(p, layout.Turns)
						y.last(p, acts.Store(y.proc(p, layout.Preempt), 1))
					} else {
						y.last(p, acts.Load(y.proc(p, layout.Turns)))
					}
					for q := p + 1; q < procs; q++ {
						y.idle(q)
					}
				}
				want := map[int]uint64{}
				if age.old {
					want[y.proc(p, layout.Preempt)] = 1
				}
				acts.Changed(t, y.m, before, want)
			}
		}
	}
}

// Promise 26.1: at first all of a row is 0: a processor whose Turns is 0 runs on since the tick 0.
func TestFirstTurn(t *testing.T) {
	for _, now := range []uint64{0, 9, 10, 300} {
		y := open(t)
		y.does(0, api.PRunning)
		y.now(now)
		y.pass()
		if got := y.is(y.proc(0, layout.Preempt)); got != 1 && now >= 10 || got != 0 && now < 10 || y.x.Row(0) != (mon.Row{}) {
			t.Errorf("now %d: Preempt %d, Row %v", now, got, y.x.Row(0))
		}
	}
}

// Promise 26.1: another turn, late or not, begins anew: it is not late in the pass that sees it.
func TestAnotherTurn(t *testing.T) {
	for _, age := range []uint64{0, 9, 10, 500} {
		for _, turns := range []uint64{0, 2, 4, round + 3, math.MaxUint64} {
			y := open(t)
			y.does(1, api.PRunning)
			y.store(y.proc(1, layout.Turns), 3)
			y.now(1000)
			y.pass()
			y.now(1000 + age)
			y.store(y.proc(1, layout.Turns), turns)
			y.begins()
			y.idle(0)
			y.load(1, layout.Status)
			y.rows[1] = mon.Row{Turns: turns, When: 1000 + age}
			y.last(1, acts.Load(y.proc(1, layout.Turns)))
			y.idle(2)
			y.now(1000 + age + 9)
			y.pass()
			if y.is(y.proc(1, layout.Preempt)) != 0 {
				t.Errorf("told to give way too early")
			}
			y.now(1000 + age + 10)
			y.pass()
			if y.is(y.proc(1, layout.Preempt)) != 1 {
				t.Errorf("not told to give way")
			}
		}
	}
}

// Promise 26.1: now is what it was when the pass began, whatever the clock does within it; a processor that runs, or is idle, by the time its Status is loaded is that.
func TestBetween(t *testing.T) {
	y := open(t)
	y.does(2, api.PRunning)
	y.store(y.proc(2, layout.Turns), 4)
	y.now(30)
	y.begins()
	y.now(90)
	y.does(0, api.PRunning)
	y.store(y.proc(0, layout.Turns), 6)
	y.load(0, layout.Status)
	y.does(0, api.PIdle)
	y.rows[0] = mon.Row{Turns: 6, When: 30}
	y.last(0, acts.Load(y.proc(0, layout.Turns)))
	y.does(0, api.PRunning)
	y.idle(1)
	y.load(2, layout.Status)
	y.store(y.proc(2, layout.Turns), 5)
	y.rows[2] = mon.Row{Turns: 5, When: 30}
	y.last(2, acts.Load(y.proc(2, layout.Turns)))
	y.now(39)
	y.begins()
	y.load(0, layout.Status)
	y.last(0, acts.Load(y.proc(0, layout.Turns)))
	y.now(90)
	y.idle(1)
	y.load(2, layout.Status)
	y.last(2, acts.Load(y.proc(2, layout.Turns)))
	if y.is(y.proc(0, layout.Preempt)) != 0 {
		t.Errorf("told to give way")
	}
}

// Promise 26.3: a processor that goes on with its turn is told to give way in the first pass that begins Quantum ticks or more behind the one that saw its turn, and not ahead of that; whatever others do.
func TestToldInTime(t *testing.T) {
	roll := uint64(3)
	below := func(n int) int {
		roll = roll*6364136223846793005 + 1442695040888963407
		return int(roll >> 33 % uint64(n))
	}
	told := 0
	for range 300 {
		y := open(t)
		ticks, turn := uint64(below(3)*(round-4)), uint64(0)
		var saw [procs]uint64 // when the pass began that saw the turn
		var turns [procs]uint64
		for p := range procs {
			y.does(p, api.PRunning)
			saw[p], turns[p] = 0, 0
		}
		for range 60 {
			ticks += uint64(below(5))
			y.now(ticks)
			for p := range procs {
				if below(9) == 0 {
					turn++
					y.store(y.proc(p, layout.Turns), turn)
				}
				y.store(y.proc(p, layout.Preempt), 0)
			}
			y.pass()
			for p := range procs {
				want := uint64(0)
				if now := y.is(y.proc(p, layout.Turns)); now != turns[p] {
					turns[p], saw[p] = now, ticks
				} else if (ticks-saw[p])%round >= 10 {
					want = 1
					told++
				}
				if got := y.is(y.proc(p, layout.Preempt)); got != want {
					t.Fatalf("processor %d: Preempt %d, want %d, %d ticks behind", p, got, want, ticks-saw[p])
				}
			}
		}
	}
	if told < 1000 {
		t.Errorf("told %d times", told)
	}
}
