package ready_test

import (
	"math"
	"testing"

	"turnspit/acts"
	"turnspit/api"
	"turnspit/idlep"
	"turnspit/layout"
	"turnspit/ready"
)

// beginReady is a Ready at its beginning, where so many goroutines were had, and g waits.
func beginReady(t *testing.T, who, p, number int, had uint64, g int) *trial {
	t.Helper()
	l, m := lay(t)
	m.Store(99, l.Word(layout.Gs), had)
	m.Store(99, l.G(g, layout.GStatus), api.GWaiting)
	return begin(t, l, m, who, p, ready.New(l, who, p, number))
}

// looks looks at the goroutine that the number tells.
func (y *trial) looks(g int) {
	y.Helper()
	y.goes(acts.Load(y.l.Word(layout.Gs)), acts.Load(y.l.G(g, layout.GStatus)))
}

// readies readies the one that it looked at: from here on it is in the hand.
func (y *trial) readies(g int) {
	y.Helper()
	y.looks(g)
	y.want.g, y.want.holds = g, []int{g}
	y.goes(acts.Swap(y.l.G(g, layout.GStatus), api.GWaiting, api.GRunnable))
}

// told are numbers, and what they leave.
type told struct {
	number int
	gs     uint64
	g      int
}

// numbers are numbers below Gs, and beyond, and below 0.
var numbers = []told{
	{0, 1, 0}, {0, gs, 0}, {5, 9, 5}, {8, 9, 8}, {9, 9, 0}, {10, 9, 1}, {12345, 9, 6}, {gs - 1, gs, gs - 1}, {gs, gs, 0}, {65535, 400, 335}, {65535, 1, 0},
	{math.MaxInt, 2, 1}, {math.MaxInt, 10, 7}, {1 << 40, 7, 2}, {5, 1 << 40, 5}, {5, math.MaxUint64, 5},
	{-1, 9, 8}, {-9, 9, 0}, {-10, 9, 8}, {-1, 1, 0}, {math.MinInt, 10, 2}, {math.MinInt, 400, 192}, {math.MinInt + 1, 2, 1}, {math.MinInt, 1 << 63, 0},
}

// Promises 23.1 and 23.2: a Ready, access by access: of the goroutine that the number tells, below Gs and beyond; it lies in the ring, as the next one; nothing else is touched.
func TestReady(t *testing.T) {
	for i, n := range numbers {
		who, p := whos[i%len(whos)], i%procs
		y := beginReady(t, who, p, n.number, n.gs, n.g)
		before := y.m.Words()
		y.readies(n.g)
		y.laysNext(n.g)
		y.wakesNobody()
		acts.Changed(t, y.m, before, map[int]uint64{y.l.G(n.g, layout.GStatus): api.GRunnable, y.proc(layout.Next): uint64(n.g) + 1})
		if y.m.Bad() != 0 || t.Failed() {
			t.Fatalf("%v: bad %d", n, y.m.Bad())
		}
	}
}

// Promise 23.1: where Gs is 0, it is done by the first load, whatever the number is, and nobody is woken.
func TestReadyOfNone(t *testing.T) {
	for i, number := range []int{0, 1, 400, -1, math.MinInt, math.MaxInt} {
		who := whos[i%len(whos)]
		y := beginReady(t, who, 1, number, 0, 0)
		y.m.Store(99, y.l.Word(layout.Spinning), 0)
		before := y.m.Words()
		y.ends(acts.Load(y.l.Word(layout.Gs)))
		acts.Changed(t, y.m, before, nil)
	}
}

// Promise 23.1: one that does not wait is left as it is, whatever it is, by two loads; nobody is woken.
func TestReadyOfOneThatDoesNotWait(t *testing.T) {
	for i, status := range []uint64{api.GIdle, api.GRunnable, api.GRunning, api.GSyscall, api.GDead, 6, round + api.GWaiting, math.MaxUint64} {
		who := whos[i%len(whos)]
		y := beginReady(t, who, 1, 12, 9, 4)
		y.m.Store(99, y.l.G(3, layout.GStatus), status)
		y.m.Store(99, y.l.Word(layout.Spinning), 0)
		before := y.m.Words()
		y.goes(acts.Load(y.l.Word(layout.Gs)))
		y.ends(acts.Load(y.l.G(3, layout.GStatus)))
		acts.Changed(t, y.m, before, nil)
	}
}

// Promises 23.1 and 23.2: one that another one readies meanwhile, or that is anything else by then, is not readied: the Swap is not done, and ends it.
func TestReadiedMeanwhile(t *testing.T) {
	for i, status := range []uint64{api.GRunnable, api.GRunning, api.GSyscall, api.GDead, round + api.GWaiting} {
		who := whos[i%len(whos)]
		y := beginReady(t, who, 1, 3, 9, 3)
		y.looks(3)
		y.m.Store(99, y.l.G(3, layout.GStatus), status)
		y.m.Store(99, y.l.Word(layout.Spinning), 0)
		before := y.m.Words()
		y.ends(acts.Swap(y.l.G(3, layout.GStatus), api.GWaiting, api.GRunnable))
		acts.Changed(t, y.m, before, nil)
	}
}

// Promise 23.1: one that waits again by the Swap, as it went on and parked between, is readied.
func TestWaitsAgain(t *testing.T) {
	y := beginReady(t, 4, 1, 3, 9, 3)
	y.looks(3)
	for _, status := range []uint64{api.GRunnable, api.GRunning, api.GWaiting} {
		y.m.Store(99, y.l.G(3, layout.GStatus), status)
	}
	y.want.g, y.want.holds = 3, []int{3}
	y.goes(acts.Swap(y.l.G(3, layout.GStatus), api.GWaiting, api.GRunnable))
	y.laysNext(3)
	y.wakesNobody()
}

// Promise 23.1: Gs is loaded once: what comes behind that does not tell another goroutine.
func TestGsGrows(t *testing.T) {
	y := beginReady(t, 4, 1, 12, 9, 3)
	y.goes(acts.Load(y.l.Word(layout.Gs)))
	y.m.Store(99, y.l.Word(layout.Gs), 20)
	y.m.Store(99, y.l.G(12, layout.GStatus), api.GWaiting)
	y.goes(acts.Load(y.l.G(3, layout.GStatus)))
	y.want.g, y.want.holds = 3, []int{3}
	y.goes(acts.Swap(y.l.G(3, layout.GStatus), api.GWaiting, api.GRunnable))
}

// Promise 23.1: where Gs is more than the config has, the number may tell a goroutine that there is not: it does not wait.
func TestReadyOfNoSuchGoroutine(t *testing.T) {
	for _, number := range []int{gs, 1000, math.MaxInt - 1, -1, math.MinInt + 1000} {
		for _, had := range []uint64{math.MaxInt, 1 << 63, math.MaxUint64} {
			y := beginReady(t, 4, 1, number, had, 0)
			y.goes(acts.Load(y.l.Word(layout.Gs)))
			y.ends(acts.Load(api.None))
			if y.m.Bad() != 1 {
				t.Errorf("bad: %d", y.m.Bad())
			}
		}
	}
}

// Promises 23.1 and 23.2: behind a Next one that was there: that one is in the hand until it lies at the ring's end, or, of a full ring, in the global queue, behind what the ring gave.
func TestReadyNextWasThere(t *testing.T) {
	for i, many := range []int{0, 1, 9, api.RingSize - 1, api.RingSize} {
		for _, who := range whos {
			y := beginReady(t, who, i%procs, 3, 9, 3)
			fill(y.l, y.m, y.p, 20, many, 350)
			y.readies(3)
			y.replaces(3, 350)
			if many < api.RingSize {
				y.lays(350, many)
				y.wakesNobody()
				y.lies(append(rising(20, many), 350, 3), nil)
				continue
			}
			y.moves(350, 20)
			y.wakesNobody()
			y.lies(append(rising(20+api.Half, api.Half), 3), append(rising(20, api.Half), 350))
		}
	}
}

// Promises 23.1 and 23.2: some thread is woken as layer 19 says, where no processor is idle, where one is, and where no thread is to be had.
func TestReadyWakes(t *testing.T) {
	for _, idle := range []bool{false, true} {
		for _, had := range []uint64{5, threads} {
			for _, who := range whos {
				y := beginReady(t, who, 1, 3, 9, 3)
				y.m.Store(99, y.l.Word(layout.Spinning), 0)
				y.m.Store(99, y.l.Word(layout.Threads), had)
				if idle {
					acts.All(t, y.m, idlep.New(y.l, 99, 2))
				}
				y.readies(3)
				y.laysNext(3)
				y.wakesSome(idle, had < threads)
			}
		}
	}
}

// Promises 23.1 and 23.2: with a processor that there is not it is tried for ever to be the next one: it stays in the hand.
func TestReadyNoSuchProcessor(t *testing.T) {
	for _, p := range append(nones, procs) {
		y := beginReady(t, 4, p, 3, 9, 3)
		y.readies(3)
		y.goes(acts.Load(api.None))
		for range 20 {
			y.goes(acts.Swap(api.None, 0, 4), acts.Load(api.None))
		}
	}
}

// Promises 23.1 and 23.2: a Next one that another one steals, or puts, between two steps: it is loaded again, and goes by what it is then.
func TestReadyNextIsStolen(t *testing.T) {
	y := beginReady(t, 4, 1, 3, 9, 3)
	next := y.proc(layout.Next)
	y.m.Store(99, next, 31)
	y.readies(3)
	y.goes(acts.Load(next))
	y.m.Store(99, next, 0)
	y.goes(acts.Swap(next, 31, 4))
	y.laysNext(3)
	y.m.Store(99, next, 0)
	y.m.Store(99, y.l.G(3, layout.GStatus), api.GDead) // whatever becomes of it, it was readied
	y.wakesNobody()
}
