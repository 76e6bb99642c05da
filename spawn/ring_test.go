package spawn_test

import (
	"slices"
	"testing"

	"turnspit/acts"
	"turnspit/api"
	"turnspit/cell"
	"turnspit/code"
	"turnspit/globq"
	"turnspit/goro"
	"turnspit/idlep"
	"turnspit/layout"
	"turnspit/lock"
	"turnspit/ring"
	"turnspit/spawn"
)

// fill lays so many goroutines into a ring, from first on, and lets one be the next one.
func fill(l *layout.Layout, m *cell.Mem, p, first, many, next int) {
	for i := range uint64(many) {
		m.Store(99, l.Ring(p, start+i), uint64(first)+i+1)
	}
	m.Store(99, l.Proc(p, layout.Tail), (start+uint64(many))%round)
	m.Store(99, l.Proc(p, layout.Next), uint64(next)+1)
}

// rising are so many numbers, from first on.
func rising(first, n int) []int {
	list := make([]int, n)
	for i := range list {
		list[i] = first + i
	}
	return list
}

// lies holds a ring, and the global queue, against what they should be.
func (y *trial) lies(inRing, inQueue []int) {
	y.Helper()
	if got, right := ring.Gs(y.l, y.m, y.p); !right || !slices.Equal(got, inRing) {
		y.Errorf("the ring: %v, %v, want %v", got, right, inRing)
	}
	if got, right := globq.List(y.l, y.m); !right || !slices.Equal(got, inQueue) {
		y.Errorf("the queue: %v, %v, want %v", got, right, inQueue)
	}
}

// replaces spawns g, which takes the place of the one that was the next one.
func (y *trial) replaces(g, was int) {
	y.Helper()
	y.getsNew(uint64(g))
	y.spawns(g)
	y.want.holds = []int{was}
	y.goes(acts.Swap(y.l.Proc(y.p, layout.Next), uint64(was)+1, uint64(g)+1))
}

// Promises 22.1 and 22.2: behind a Next one that was there: that one is in the hand, until it lies at the ring's end, whether the ring has some or none.
func TestNextWasThere(t *testing.T) {
	for _, who := range whos {
		for _, many := range []int{0, 1, 5, api.RingSize - 1} {
			l, m := lay(t)
			y := begin(t, l, m, makeArena(t), who, 2, 0)
			fill(l, m, 2, 20, many, 350)
			y.replaces(0, 350)
			tail := start + uint64(many)
			y.goes(acts.Load(l.Proc(2, layout.Head)), acts.Load(l.Proc(2, layout.Tail)), acts.Store(l.Ring(2, tail), 351))
			y.want.holds = nil
			y.goes(acts.Store(l.Proc(2, layout.Tail), (tail+1)%round))
			y.wakesNobody()
			y.lies(append(rising(20, many), 350, 0), nil)
		}
	}
}

// Promises 22.1 and 22.2: into a ring that is full, behind a Next one that was there: Half go to the global queue, and that one behind them; all of them are in the hand until they lie there.
func TestFullRing(t *testing.T) {
	for _, who := range whos {
		l, m := lay(t)
		y := begin(t, l, m, makeArena(t), who, 1, 0)
		fill(l, m, 1, 20, api.RingSize, 350)
		moved := append(rising(20, api.Half), 350)
		y.replaces(0, 350)
		y.goes(acts.Load(l.Proc(1, layout.Head)), acts.Load(l.Proc(1, layout.Tail)))
		for i := range uint64(api.Half) {
			y.goes(acts.Load(l.Ring(1, start+i)))
		}
		y.want.holds = moved
		y.goes(acts.Swap(l.Proc(1, layout.Head), start, (start+api.Half)%round))
		y.goes(acts.Acquire(l, 0, who)...)
		for i, g := range moved {
			link := uint64(0)
			if i < api.Half {
				link = uint64(moved[i+1]) + 1
			}
			y.goes(acts.Store(l.G(g, layout.GLink), link))
		}
		y.goes(acts.Load(l.Word(layout.GlobTail)))
		y.want.holds = nil
		y.goes(acts.Store(l.Word(layout.GlobHead), 21), acts.Store(l.Word(layout.GlobTail), 351), acts.Add(l.Word(layout.GlobSize), api.Half+1))
		y.goes(acts.Release(l, 0)...)
		y.wakesNobody()
		y.lies(append(rising(20+api.Half, api.Half), 0), moved)
	}
}

// Promise 22.1: into a ring that is full, where there is no Next one, it is that; the ring is not asked.
func TestFullRingNoNext(t *testing.T) {
	l, m := lay(t)
	y := begin(t, l, m, makeArena(t), 1, 1, 0)
	fill(l, m, 1, 20, api.RingSize, api.None)
	y.getsNew(0)
	y.spawns(0)
	y.lays()
	y.wakesNobody()
	y.lies(append(rising(20, api.RingSize), 0), nil)
}

// spawnsOne does all steps of a Spawn until it wakes some thread, who wakes somebody, if nobody spins.
func spawnsOne(t *testing.T, l *layout.Layout, m *cell.Mem, who int) *trial {
	t.Helper()
	m.Store(99, l.Word(layout.Spinning), 0)
	y := begin(t, l, m, makeArena(t), who, 1, 0)
	y.getsNew(0)
	y.spawns(0)
	y.lays()
	return y
}

// Promises 22.1 and 22.2: some thread is woken as layer 19 says, where a processor is idle, and a thread is to be had: the processor is in the hand meanwhile, and it counts by itself.
func TestWakesSome(t *testing.T) {
	for _, who := range whos {
		l, m := lay(t)
		m.Store(99, l.Word(layout.Threads), 5)
		acts.All(t, m, idlep.New(l, 99, 2))
		y := spawnsOne(t, l, m, who)
		hands, counts := 0, 0
		for range 13 { // until the thread is given the processor: a look at Spinning, the Swap, the lock, the processor, and of the thread two loads
			y.x.Step(m)
			if y.x.Hand() == 2 {
				hands++
			}
			if y.x.Counts() {
				counts++
			}
		}
		if hands != 4 || counts != 9 {
			t.Errorf("the processor was %d steps in the hand, it counted %d", hands, counts)
		}
		acts.All(t, m, y.x)
		y.rests()
		if y.is(l.Thread(5, layout.Given)) != 3+round || y.is(l.Thread(5, layout.Note)) != 1 || y.is(l.Word(layout.Spinning)) != 1 {
			t.Errorf("thread 5 is given %x", y.is(l.Thread(5, layout.Given)))
		}
	}
}

// Promises 22.1 and 22.2: the same, against what layer 19 does, step by step: where no processor is idle, where one is, and where no thread is to be had.
func TestWakesAsLayer19(t *testing.T) {
	for _, idle := range []bool{false, true} {
		for _, had := range []uint64{5, threads} {
			for _, who := range whos {
				l, m := lay(t)
				m.Store(99, l.Word(layout.Threads), had)
				if idle {
					acts.All(t, m, idlep.New(l, 99, 2))
				}
				y := spawnsOne(t, l, m, who)
				y.wakesSome()
				if needs := idle && had < threads; (y.is(l.Word(layout.Needs)) == 0) != needs {
					t.Errorf("Needs: %d", y.is(l.Word(layout.Needs)))
				}
			}
		}
	}
}

// Promise 22.1: who has to wait for the goroutines' lock looks at nothing else until it has it; the scheduler's lock has no part in it.
func TestWaits(t *testing.T) {
	l, m := lay(t)
	acts.All(t, m, lock.New(l, 0, 50))
	acts.All(t, m, lock.New(l, gsLock, 51))
	y := begin(t, l, m, makeArena(t), 4, 1, 0)
	y.goes(acts.Add(l.Ticket(gsLock), 1))
	for range 20 {
		y.goes(acts.Load(l.Serving(gsLock)))
	}
	m.Store(99, l.Word(layout.Gs), 9)
	acts.All(t, m, lock.NewRelease(l, gsLock, 51))
	gs := l.Word(layout.Gs)
	y.goes(acts.Load(l.Serving(gsLock)), acts.Store(l.Owner(gsLock), 5), acts.Load(l.Word(layout.FreeG)), acts.Load(gs), acts.Store(gs, 10))
	y.goes(acts.Release(l, gsLock)...)
	y.spawns(9)
	y.lays()
	y.wakesNobody()
}

// Promises 22.1 and 22.2: a Next one that another one steals, or puts, between two steps: it is loaded again, and goes by what it is then.
func TestNextIsStolen(t *testing.T) {
	l, m := lay(t)
	next := l.Proc(1, layout.Next)
	m.Store(99, next, 31)
	y := begin(t, l, m, makeArena(t), 4, 1, 0)
	y.getsNew(0)
	y.spawns(0)
	m.Store(99, next, 0)
	y.goes(acts.Swap(next, 31, 1), acts.Load(next))
	m.Store(99, next, 32)
	y.goes(acts.Swap(next, 0, 1), acts.Load(next))
	y.want.holds = []int{31}
	y.goes(acts.Swap(next, 32, 1), acts.Load(l.Proc(1, layout.Head)))
}

// Promise 22.2: a goroutine that was spawned is told, whatever becomes of it between the steps behind.
func TestRunsBetween(t *testing.T) {
	l, m := lay(t)
	y := begin(t, l, m, makeArena(t), 4, 1, 0)
	y.getsNew(0)
	y.spawns(0)
	y.lays()
	m.Store(99, l.Proc(1, layout.Next), 0) // it is stolen, runs, and ends
	m.Store(99, l.G(0, layout.GStatus), api.GDead)
	y.tells()
	y.wakesNobody()
	if y.is(l.G(0, layout.GStatus)) != api.GDead {
		t.Errorf("its Status: %d", y.is(l.G(0, layout.GStatus)))
	}
}

// The chapter's example.
func TestExample(t *testing.T) {
	l, m := acts.Lay(t, api.Config{Procs: 1, Threads: 1, Gs: 1})
	a, _ := goro.New(code.Read([]uint64{3}), 1)
	x := spawn.New(l, a, 0, 0, 0)
	acts.All(t, m, x)
	if x.G() != 0 || x.Refused() {
		t.Errorf("the first one: %d, %v", x.G(), x.Refused())
	}
	x = spawn.New(l, a, 0, 0, 0)
	acts.All(t, m, x)
	if x.G() != api.None || !x.Refused() {
		t.Errorf("the second one: %d, %v", x.G(), x.Refused())
	}
	acts.All(t, m, spawn.NewEnd(l, 0, 0))
	m.Store(99, l.Proc(0, layout.Next), 0)
	x = spawn.New(l, a, 0, 0, 0)
	acts.All(t, m, x)
	if _, _, _, begun := a.Place(0); x.G() != 0 || x.Refused() || begun != 2 || m.Bad() != 0 {
		t.Errorf("the third one: %d, %v, begun %d; bad %d", x.G(), x.Refused(), begun, m.Bad())
	}
}
