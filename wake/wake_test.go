package wake_test

import (
	"math"
	"testing"

	"turnspit/acts"
	"turnspit/api"
	"turnspit/cell"
	"turnspit/idlem"
	"turnspit/idlep"
	"turnspit/layout"
	"turnspit/lock"
	"turnspit/wake"
)

const (
	procs   = api.MaxProcs
	threads = 80 // how many the config has
	round   = 1 << 32
	less    = round - 1
)

// whos are threads at both ends, below 0 and beyond.
var whos = []int{0, 1, threads - 1, -1, threads, 1000, math.MaxInt}

// ps are processors at both ends, and between.
var ps = []int{0, 1, 31, procs - 1}

// nones are neither processors nor threads.
var nones = []int{math.MinInt, -2, -1, api.MaxThreads, 1 << 32, math.MaxInt}

// wrong are words that are neither a processor nor a thread, and not 0.
var wrong = []uint64{threads + 1, api.MaxThreads + 1, 1 << 32, 1<<32 + 1, 1 << 63, 1<<63 + 1, math.MaxUint64}

// lay is a layout, and its memory, whose words are stale, but those that tell of idle ones, and of Spinning: these are 0; the turn at the lock goes round.
func lay(t *testing.T) (*layout.Layout, *cell.Mem) {
	t.Helper()
	l, m := acts.Lay(t, api.Config{Procs: procs, Threads: threads, Gs: 1})
	for at := range l.Len() {
		m.Store(99, at, 7)
	}
	for _, w := range []int{layout.IdleP, layout.IdlePs, layout.IdleM, layout.IdleMs, layout.Spinning, layout.Threads, layout.Mask} {
		m.Store(99, l.Word(w), 0)
	}
	m.Store(99, l.Ticket(0), round-1)
	m.Store(99, l.Serving(0), round-1)
	return l, m
}

// machine is what both machines have.
type machine interface {
	acts.Machine
	Holds() int
}

// seen is what a machine tells: the processor in its hand; of a Start the thread, of a Wake whether it counts.
type seen struct {
	p, t   int
	counts bool
}

// tells holds what a machine tells against what it should.
func tells(t *testing.T, x machine, want seen) {
	t.Helper()
	for range 2 {
		got := seen{p: x.Holds(), t: api.None}
		switch x := x.(type) {
		case *wake.Start:
			got.t = x.T()
		case *wake.Wake:
			got.counts = x.Counts()
		}
		if got != want {
			t.Errorf("told %v, want %v", got, want)
		}
	}
}

// goes does steps that are to do these accesses, none of which ends it, and to tell this from each on.
func goes(t *testing.T, m *cell.Mem, x machine, who int, want seen, list ...acts.Act) {
	t.Helper()
	for i, a := range list {
		acts.Step(t, m, x, who, a, false)
		tells(t, x, want)
		if t.Failed() {
			t.Fatalf("step %d of %d", i, len(list))
		}
	}
}

// ends does the last step; those behind it do nothing.
func ends(t *testing.T, m *cell.Mem, x machine, who int, want seen, a acts.Act) {
	t.Helper()
	acts.Step(t, m, x, who, a, true)
	rests(t, m, x, want)
}

// rests does steps that are to do nothing, of a machine that is done, and tells this.
func rests(t *testing.T, m *cell.Mem, x machine, want seen) {
	t.Helper()
	tells(t, x, want)
	acts.Rests(t, m, x)
	tells(t, x, want)
}

// idle lets processors lie on the list, one by one.
func idle(t *testing.T, l *layout.Layout, m *cell.Mem, ps ...int) {
	t.Helper()
	for _, p := range ps {
		acts.All(t, m, idlep.New(l, 99, p))
	}
}

// acquires are the accesses by which who has the scheduler's lock.
func acquires(l *layout.Layout, who int) []acts.Act {
	return []acts.Act{acts.Add(l.Ticket(0), 1), acts.Load(l.Serving(0)), acts.Store(l.Owner(0), uint64(who)+1)}
}

// word is one of the scheduler's words.
func word(l *layout.Layout, m *cell.Mem, w int) uint64 {
	got, _ := m.Peek(l.Word(w))
	return got
}

// words holds Spinning and Needs against what they should be.
func words(t *testing.T, l *layout.Layout, m *cell.Mem, spinning, needs uint64) {
	t.Helper()
	got := [...]uint64{word(l, m, layout.Spinning), word(l, m, layout.Needs)}
	if want := [...]uint64{spinning, needs}; got != want {
		t.Errorf("Spinning, Needs: %d, want %d", got, want)
	}
}

// locked are the lock's words, when it was had once, and given back.
func locked(l *layout.Layout, want map[int]uint64) map[int]uint64 {
	want[l.Ticket(0)], want[l.Serving(0)], want[l.Owner(0)] = 0, 0, 0
	return want
}

// Promise 19.2: each processor as a word, and back.
func TestWord(t *testing.T) {
	for p := range uint64(procs) {
		if a, b := wake.Word(int(p), false), wake.Word(int(p), true); a != p+1 || b != p+1+round {
			t.Errorf("Word of %d: %d, %d", p, a, b)
		}
		for _, spins := range []bool{false, true} {
			if q, is := wake.Given(wake.Word(int(p), spins)); q != int(p) || is != spins {
				t.Errorf("%d, %v, there and back: %d, %v", p, spins, q, is)
			}
		}
	}
	if w := wake.Word(2, true); w != 1<<32+3 {
		t.Errorf("Word of 2 that spins: %d", w)
	}
}

// Promise 19.2: None, and numbers that are no processors, as words.
func TestWordOfNone(t *testing.T) {
	for _, x := range []struct {
		p    int
		want uint64 // not spinning
	}{
		{api.None, 0}, {-2, math.MaxUint64}, {math.MinInt, 1<<63 + 1}, {procs, procs + 1}, {round - 2, round - 1}, {round - 1, round}, {round, round + 1}, {math.MaxInt, 1 << 63},
	} {
		if a, b := wake.Word(x.p, false), wake.Word(x.p, true); a != x.want || b != x.want+round {
			t.Errorf("Word of %d: %x, %x", x.p, a, b)
		}
	}
}

// Promise 19.2: what words give: the lower 32 bits alone tell the processor, and what is beyond whether it spins.
func TestGiven(t *testing.T) {
	for _, x := range []struct {
		w     uint64
		p     int
		spins bool
	}{
		{0, api.None, false}, {1, 0, false}, {64, 63, false}, {65, 64, false}, {1 << 31, 1<<31 - 1, false}, {round - 1, round - 2, false},
		{round, api.None, true}, {round + 1, 0, true}, {round + 3, 2, true}, {round + 64, 63, true}, {2*round - 1, round - 2, true},
		{2 * round, api.None, true}, {2*round + 3, 2, true}, {5*round + 9, 8, true}, {1<<63 + 4, 3, true}, {math.MaxUint64, round - 2, true},
	} {
		if p, spins := wake.Given(x.w); p != x.p || spins != x.spins {
			t.Errorf("Given of %x: %d, %v, want %d, %v", x.w, p, spins, x.p, x.spins)
		}
	}
}

// R1 and promise 19.1: no machine is done, and its steps do nothing; it holds none, started none, and does not count.
func TestNoMachine(t *testing.T) {
	_, m := lay(t)
	var x *wake.Start
	var w *wake.Wake
	for _, x := range []machine{x, w, &wake.Start{}, &wake.Wake{}} {
		rests(t, m, x, seen{api.None, api.None, false})
	}
}

// Machines without a memory, or without a layout, do not panic.
func TestNoMemoryNoLayout(t *testing.T) {
	l, m := lay(t)
	for _, x := range []machine{wake.New(l, 0, 1, true, false), wake.NewWake(l, 0)} {
		x.Step(nil)
		x.Done()
		x.Holds()
	}
	before := m.Words()
	for _, x := range []machine{wake.New(nil, 0, 1, true, true), wake.New(nil, 0, 1, true, false), wake.New(nil, 0, 1, false, true), wake.NewWake(nil, 0)} {
		for range 30 {
			x.Step(m)
			x.Done()
			x.Holds()
		}
	}
	acts.Changed(t, m, before, nil)
}

// hasLock lets somebody have the lock, and gives what gives it back.
func hasLock(t *testing.T, l *layout.Layout, m *cell.Mem) *lock.Release {
	t.Helper()
	acts.All(t, m, lock.New(l, 0, 50))
	return lock.NewRelease(l, 0, 50)
}

// idleThreads lets threads lie on the list, one by one, where so many were had.
func idleThreads(t *testing.T, l *layout.Layout, m *cell.Mem, had uint64, ts ...int) {
	t.Helper()
	m.Store(99, l.Word(layout.Threads), had)
	for _, one := range ts {
		acts.All(t, m, idlem.New(l, 99, one))
	}
}
