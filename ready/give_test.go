package ready_test

import (
	"math"
	"testing"

	"turnspit/acts"
	"turnspit/api"
	"turnspit/globq"
	"turnspit/idlep"
	"turnspit/layout"
	"turnspit/lock"
	"turnspit/ready"
)

// beginGive is a Give at its beginning, of a goroutine that runs.
func beginGive(t *testing.T, who, p, g, how int) *trial {
	t.Helper()
	l, m := lay(t)
	m.Store(99, l.G(g, layout.GStatus), api.GRunning)
	return begin(t, l, m, who, p, ready.NewGive(l, who, p, g, how))
}

// gives gives way: from here on the goroutine is in the hand.
func (y *trial) gives(g int) {
	y.Helper()
	y.want.gave, y.want.holds = true, []int{g}
	y.goes(acts.Store(y.l.G(g, layout.GStatus), api.GRunnable))
}

// hows are ways that are neither Yields nor Preempted.
var hows = []int{ready.Parks, 2, 3, 77, -1, math.MinInt, math.MaxInt}

// gsAtEnds are goroutines at both ends.
var gsAtEnds = []int{0, 1, 300, gs - 1}

// The chapter's constants.
func TestHows(t *testing.T) {
	if ready.Yields != 0 || ready.Preempted != 1 || ready.Parks != 2 {
		t.Errorf("%d, %d, %d", ready.Yields, ready.Preempted, ready.Parks)
	}
}

// Promises 23.1 and 23.2: one that yields, access by access: it lies in the ring, not as the next one, whether there is a next one or not; nothing else is touched.
func TestYields(t *testing.T) {
	for i, who := range whos {
		for _, g := range gsAtEnds {
			for _, many := range []int{0, 1, 2, 9, api.RingSize - 1} {
				for _, next := range []int{api.None, 7} {
					y := beginGive(t, who, i%procs, g, ready.Yields)
					fill(y.l, y.m, y.p, 20, many, next)
					before := y.m.Words()
					y.gives(g)
					y.lays(g, many)
					y.wakesNobody()
					tail := start + uint64(many)
					acts.Changed(t, y.m, before, map[int]uint64{y.l.G(g, layout.GStatus): api.GRunnable, y.l.Ring(y.p, tail): uint64(g) + 1, y.proc(layout.Tail): (tail + 1) % round})
					if y.m.Bad() != 0 {
						t.Errorf("bad: %d", y.m.Bad())
					}
				}
			}
		}
	}
}

// Promises 23.1 and 23.2: one that yields into a full ring: Half of that go to the global queue, and it behind them; the next one stays.
func TestYieldsToAFullRing(t *testing.T) {
	for i, who := range whos {
		y := beginGive(t, who, i%procs, 3, ready.Yields)
		fill(y.l, y.m, y.p, 20, api.RingSize, 350)
		y.gives(3)
		y.moves(3, 20)
		y.wakesNobody()
		y.lies(append(rising(20+api.Half, api.Half), 350), append(rising(20, api.Half), 3))
	}
}

// Promises 23.1 and 23.2: one that is preempted, access by access: it lies behind the global queue, and in no ring; nothing else is touched.
func TestPreempted(t *testing.T) {
	for i, who := range whos {
		for _, g := range gsAtEnds {
			y := beginGive(t, who, i%procs, g, ready.Preempted)
			before := y.m.Words()
			y.gives(g)
			y.enqueues(api.None)
			y.wakesNobody()
			w := uint64(g) + 1
			acts.Changed(t, y.m, before, map[int]uint64{
				y.l.Ticket(0): 0, y.l.Serving(0): 0, y.l.Owner(0): 0,
				y.l.Word(layout.GlobHead): w, y.l.Word(layout.GlobTail): w, y.l.Word(layout.GlobSize): 1,
				y.l.G(g, layout.GStatus): api.GRunnable, y.l.G(g, layout.GLink): 0,
			})
			if y.m.Bad() != 0 {
				t.Errorf("bad: %d", y.m.Bad())
			}
		}
	}
}

// Promise 23.1: one that is preempted comes behind those that lie in the queue; the ring is not asked.
func TestPreemptedBehind(t *testing.T) {
	for i, who := range whos {
		y := beginGive(t, who, i%procs, 3, ready.Preempted)
		acts.All(t, y.m, globq.New(y.l, 99, []int{9, 5}))
		fill(y.l, y.m, y.p, 20, i, 350)
		y.gives(3)
		y.enqueues(5)
		y.wakesNobody()
		y.lies(append(rising(20, i), 350), []int{9, 5, 3})
	}
}

// Promises 23.1 and 23.2: one that parks, as any other how says, is done by one store, whatever lies in the ring: it waits, is in no hand, and nobody is woken.
func TestParks(t *testing.T) {
	for i, who := range whos {
		for _, how := range hows {
			for _, g := range gsAtEnds {
				y := beginGive(t, who, i%procs, g, how)
				fill(y.l, y.m, y.p, 20, i, 350)
				y.m.Store(99, y.l.Word(layout.Spinning), 0)
				before := y.m.Words()
				y.want.gave = true
				y.ends(acts.Store(y.l.G(g, layout.GStatus), api.GWaiting))
				acts.Changed(t, y.m, before, map[int]uint64{y.l.G(g, layout.GStatus): api.GWaiting})
			}
		}
	}
}

// Promise 23.1: one that is preempted waits for the scheduler's lock, in the hand; what is put into the queue meanwhile lies ahead of it. One that yields does not ask for it.
func TestGiveWaits(t *testing.T) {
	y := beginGive(t, 4, 1, 3, ready.Preempted)
	acts.All(t, y.m, lock.New(y.l, 0, 50))
	y.gives(3)
	y.goes(acts.Add(y.l.Ticket(0), 1))
	for range 20 {
		y.goes(acts.Load(y.l.Serving(0)))
	}
	acts.All(t, y.m, globq.New(y.l, 50, []int{8}))
	z := &trial{T: t, l: y.l, m: y.m, who: 6, p: 2, x: ready.NewGive(y.l, 6, 2, 4, ready.Yields), want: seen{g: api.None, hand: api.None}}
	z.gives(4)
	z.lays(4, 0)
	z.wakesNobody()
	acts.All(t, y.m, lock.NewRelease(y.l, 0, 50))
	y.goes(acts.Load(y.l.Serving(0)), acts.Store(y.l.Owner(0), 5), acts.Store(y.l.G(3, layout.GLink), 0), acts.Load(y.l.Word(layout.GlobTail)))
	y.want.holds = nil
	y.goes(acts.Store(y.l.G(8, layout.GLink), 4), acts.Store(y.l.Word(layout.GlobTail), 4), acts.Add(y.l.Word(layout.GlobSize), 1))
	y.goes(acts.Release(y.l, 0)...)
	y.wakesNobody()
	y.lies(nil, []int{8, 3})
}

// Promises 23.1 and 23.2: behind a yield, and where one is preempted, some thread is woken as layer 19 says: where no processor is idle, where one is, and where no thread is to be had.
func TestGiveWakes(t *testing.T) {
	for _, how := range []int{ready.Yields, ready.Preempted} {
		for _, idle := range []bool{false, true} {
			for _, had := range []uint64{5, threads} {
				for _, who := range whos {
					y := beginGive(t, who, 1, 3, how)
					y.m.Store(99, y.l.Word(layout.Spinning), 0)
					y.m.Store(99, y.l.Word(layout.Threads), had)
					if idle {
						acts.All(t, y.m, idlep.New(y.l, 99, 2))
					}
					y.gives(3)
					if how == ready.Yields {
						y.lays(3, 0)
					} else {
						y.enqueues(api.None)
					}
					y.wakesSome(idle, had < threads)
				}
			}
		}
	}
}

// Promise 23.1: of a goroutine that there is not the Status is at no place; it lies where it is put, as its number says.
func TestGiveNoSuchGoroutine(t *testing.T) {
	for _, g := range append(nones, gs) {
		y := beginGive(t, 4, 1, g, ready.Parks)
		y.want.gave = true
		y.ends(acts.Store(api.None, api.GWaiting))

		y = beginGive(t, 4, 1, g, ready.Yields)
		y.want.gave, y.want.holds = true, []int{g}
		y.goes(acts.Store(api.None, api.GRunnable))
		y.lays(g, 0)
		y.wakesNobody()

		y = beginGive(t, 4, 1, g, ready.Preempted)
		y.want.gave, y.want.holds = true, []int{g}
		y.goes(acts.Store(api.None, api.GRunnable))
		y.enqueues(api.None)
		y.wakesNobody()
		if y.m.Bad() != 3 { // the first store, by which it was to run, the second one, and its GLink
			t.Errorf("bad: %d", y.m.Bad())
		}
	}
}

// Promise 23.1: with a processor that there is not one that yields lies at no place, and is in no hand then; one that is preempted does not need one.
func TestGiveNoSuchProcessor(t *testing.T) {
	for _, p := range append(nones, procs) {
		y := beginGive(t, 4, p, 3, ready.Yields)
		y.gives(3)
		y.goes(acts.Load(api.None), acts.Load(api.None), acts.Store(api.None, 4))
		y.want.holds = nil
		y.goes(acts.Store(api.None, 1))
		y.wakesNobody()

		y = beginGive(t, 4, p, 3, ready.Preempted)
		y.gives(3)
		y.enqueues(api.None)
		y.wakesNobody()
		if y.m.Bad() != 0 {
			t.Errorf("bad: %d", y.m.Bad())
		}
	}
}

// Promises 23.1 and 23.2: what thieves take out of the ring between two steps: it lies at the end that the ring had; what was given is told, whatever becomes of it.
func TestGiveOthersBetween(t *testing.T) {
	y := beginGive(t, 4, 1, 3, ready.Yields)
	fill(y.l, y.m, 1, 20, api.RingSize, api.None)
	y.gives(3)
	y.m.Store(99, y.proc(layout.Head), start+1)
	y.lays(3, api.RingSize)
	y.m.Store(99, y.l.G(3, layout.GStatus), api.GDead)
	y.tells()
	y.wakesNobody()

	y = beginGive(t, 4, 1, 3, ready.Yields) // the ring is full when it is looked at, and gives one meanwhile: then it has a place
	fill(y.l, y.m, 1, 20, api.RingSize, api.None)
	y.gives(3)
	y.goes(acts.Load(y.proc(layout.Head)), acts.Load(y.proc(layout.Tail)))
	for i := range uint64(api.Half) {
		y.goes(acts.Load(y.l.Ring(1, start+i)))
	}
	y.m.Store(99, y.proc(layout.Head), start+1)
	y.goes(acts.Swap(y.proc(layout.Head), start, (start+api.Half)%round))
	y.lays(3, api.RingSize)
	y.wakesNobody()
}
