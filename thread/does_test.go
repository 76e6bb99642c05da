package thread_test

import (
	"slices"
	"testing"

	"turnspit/acts"
	"turnspit/api"
	"turnspit/globq"
	"turnspit/idlep"
	"turnspit/layout"
	"turnspit/ready"
	"turnspit/ring"
	"turnspit/spawn"
	"turnspit/thread"
)

// giveOf is a machine by which the goroutine that runs gives way.
func giveOf(y *trial, how int) *ready.Give {
	return ready.NewGive(y.l, y.t, y.want.p, y.want.g, how)
}

// gives gives way, as layer 23 does: the event comes at the step at which it has; then it finds one.
func (y *trial) gives(x *ready.Give, kind int) {
	y.Helper()
	y.same(x, func(done bool) api.Event {
		var e api.Event
		if y.want.g != api.None {
			e = y.event(kind, api.None)
			y.want.g = api.None
		}
		if done {
			y.want.does = thread.Finds
		}
		y.want.holds, y.want.hand, y.want.counts = x.Holds(), x.Hand(), x.Counts()
		return e
	})
}

// ends ends the goroutine, as layer 22 does, and then finds one.
func (y *trial) ends() {
	y.Helper()
	x := spawn.NewEnd(y.l, y.t, y.want.g)
	y.same(x, func(done bool) api.Event {
		var e api.Event
		if y.want.g != api.None {
			e = y.event(api.EvExit, api.None)
			y.want.g = api.None
		}
		if done {
			y.want.does = thread.Finds
		}
		return e
	})
}

// room lets a processor be idle, and nobody spin, so that some thread is woken, if there is one to be had.
func (y *trial) room(had uint64) {
	acts.All(y, y.m, idlep.New(y.l, 99, 2))
	y.store(y.word(layout.Spinning), 0)
	y.store(y.word(layout.Threads), had)
}

// wakeups are all that may come of a wake, ahead of it.
var wakeups = []func(y *trial){
	func(y *trial) {},
	func(y *trial) { y.room(4) },
	func(y *trial) { y.room(threads) },
	func(y *trial) { y.store(y.word(layout.Spinning), 0) },
}

// Promises 27.1 and 27.2: InYield: the goroutine lies in the ring, and some thread is woken; then the thread finds one, and what was put first comes first.
func TestYields(t *testing.T) {
	for _, prepares := range wakeups {
		y := running(t, 3)
		prepares(y)
		y.obeys(thread.Gives)
		y.stands(0, place{0, 1, 0, 1})
		y.gives(giveOf(y, ready.Yields), api.EvYield)
		if list, _ := ring.Gs(y.l, y.m, 0); !slices.Equal(list, []int{0}) || y.is(y.g(0)) != api.GRunnable || y.want.p != 0 {
			t.Errorf("the ring: %v", list)
		}
		y.finds(nil, thread.Starts)
		y.starts(0, false)
		y.noBad()
	}
}

// Promises 27.1 and 27.2: InPark: the goroutine waits, and lies nowhere; the thread finds one.
func TestParks(t *testing.T) {
	y := running(t, 4)
	fills(y.l, y.m, 0, 3)
	y.obeys(thread.Gives)
	y.gives(giveOf(y, ready.Parks), api.EvPark)
	if y.is(y.g(0)) != api.GWaiting {
		t.Errorf("Status: %d", y.is(y.g(0)))
	}
	y.finds(nil, thread.Starts)
	y.starts(3, true)
	y.noBad()
}

// Promises 27.1 and 27.2: InExit, told and behind all: the goroutine is dead, and put back; the thread finds one.
func TestEnds(t *testing.T) {
	for _, words := range [][]uint64{{0}, {}, {9 | 1<<48}, {8}} {
		y := running(t, words...)
		y.obeys(thread.Ends)
		y.ends()
		if y.is(y.g(0)) != api.GDead || y.is(y.word(layout.FreeG)) != 1 {
			t.Errorf("Status %d, FreeG %d", y.is(y.g(0)), y.is(y.word(layout.FreeG)))
		}
		y.noBad()
	}
}

// spawns spawns another one, as layer 22 does: the event comes at the step at which it is spawned, or, if it is refused, at the last one; then the goroutine runs on.
func (y *trial) spawns(program int) (other int) {
	y.Helper()
	theirs := arena(y.T, 2)
	x, told := spawn.New(y.l, theirs, y.t, y.want.p, program), false
	y.same(x, func(done bool) api.Event {
		var e api.Event
		switch {
		case x.G() != api.None && !told:
			e, told = y.event(api.EvSpawn, x.G()), true
		case x.Refused():
			e = y.event(api.EvRefused, api.None)
		}
		if done {
			y.want.does = thread.Runs
		}
		y.want.holds, y.want.hand, y.want.counts = x.Holds(), x.Hand(), x.Counts()
		return e
	})
	return x.G()
}

// Promises 27.1 and 27.2: InSpawn: a new goroutine, or one that was given back, begins with the program, is the next one, and some thread is woken; the one that runs runs on.
func TestSpawns(t *testing.T) {
	for _, prepares := range wakeups {
		for _, free := range []bool{false, true} {
			y := running(t, 2+8, 7, 9) // InSpawn of 1; InCompute of 2
			prepares(y)
			want := 15
			if free {
				want = 11
				y.store(y.word(layout.FreeG), 12)
			} else {
				y.store(y.word(layout.Gs), 15)
			}
			y.obeys(thread.Spawns)
			if other := y.spawns(1); other != want {
				t.Errorf("spawned %d, want %d", other, want)
			}
			y.stands(want, place{1, 0, 0, 2})
			y.stands(0, place{0, 1, 0, 1})
			if w := y.is(y.proc(layout.Next)); w != uint64(want)+1 || y.is(y.g(want)) != api.GRunnable {
				t.Errorf("Next %d, Status %d", w, y.is(y.g(want)))
			}
			y.obeys(thread.Ends)
			y.noBad()
		}
	}
}

// Promises 27.1 and 27.2: InSpawn that is refused, as all goroutines are had: the event comes at the last step, and the goroutine runs on; nobody is woken.
func TestRefused(t *testing.T) {
	y := running(t, 2, 2)
	y.room(4)
	for i := range 2 {
		y.obeys(thread.Spawns)
		before := y.m.Words()
		if other := y.spawns(0); other != api.None {
			t.Errorf("spawned %d", other)
		}
		acts.Changed(t, y.m, before, map[int]uint64{y.l.Ticket(1): uint64(i), y.l.Serving(1): uint64(i), y.l.Owner(1): 0})
	}
	y.obeys(thread.Ends)
	y.noBad()
}

// readies readies one, as layer 23 does: the event comes at the step at which it is; then the goroutine runs on.
func (y *trial) readies(number int) (other int) {
	y.Helper()
	x, told := ready.New(y.l, y.t, y.want.p, number), false
	y.same(x, func(done bool) api.Event {
		var e api.Event
		if x.G() != api.None && !told {
			e, told = y.event(api.EvReady, x.G()), true
		}
		if done {
			y.want.does = thread.Runs
		}
		y.want.holds, y.want.hand, y.want.counts = x.Holds(), x.Hand(), x.Counts()
		return e
	})
	return x.G()
}

// Promises 27.1 and 27.2: InReady: one that waits is readied, is the next one, and some thread is woken; the one that runs runs on.
func TestReadies(t *testing.T) {
	for _, prepares := range wakeups {
		for _, number := range []int{13, 13 + gs, 13 + 7*gs} {
			y := running(t, 5+8*uint64(number), 9)
			prepares(y)
			y.store(y.g(13), api.GWaiting)
			y.obeys(thread.Readies)
			if other := y.readies(number); other != 13 {
				t.Errorf("readied %d", other)
			}
			if w := y.is(y.proc(layout.Next)); w != 14 || y.is(y.g(13)) != api.GRunnable {
				t.Errorf("Next %d, Status %d", w, y.is(y.g(13)))
			}
			y.obeys(thread.Runs)
			y.stands(0, place{0, 1, 1, 1})
			y.noBad()
		}
	}
}

// Promises 27.1 and 27.2: InReady of one that does not wait, itself among them, and where there is none: none is readied, there is no event, and the goroutine runs on.
func TestReadiesNone(t *testing.T) {
	for _, status := range []uint64{api.GIdle, api.GRunnable, api.GRunning, api.GSyscall, api.GDead, round + api.GWaiting} {
		y := running(t, 5+8*13, 5, 5)
		y.store(y.g(13), status)
		y.obeys(thread.Readies)
		if other := y.readies(13); other != api.None {
			t.Errorf("readied %d", other)
		}
		y.obeys(thread.Readies)
		if other := y.readies(0); other != api.None {
			t.Errorf("readied itself")
		}
		y.store(y.word(layout.Gs), 0)
		y.obeys(thread.Readies)
		if other := y.readies(0); other != api.None {
			t.Errorf("readied %d of none", other)
		}
		y.obeys(thread.Ends)
	}
}

// Promise 27.1: one that waits, and is readied by another one between the load and the Swap: there is no event.
func TestReadiedMeanwhile(t *testing.T) {
	y := running(t, 5+8*13)
	y.store(y.g(13), api.GWaiting)
	y.obeys(thread.Readies)
	y.plain(acts.Load(y.word(layout.Gs)), acts.Load(y.g(13)))
	y.store(y.g(13), api.GRunnable)
	y.want.does = thread.Runs
	y.plain(acts.Swap(y.g(13), api.GWaiting, api.GRunnable))
	y.obeys(thread.Ends)
}

// Promise 27.1: a full ring gives Half to the queue, whoever lays something there, and these are in the hand meanwhile.
func TestFullRing(t *testing.T) {
	y := running(t, 3)
	var list []int
	for i := range api.RingSize {
		list = append(list, 1+i%(gs-1))
	}
	y.store(y.proc(layout.Head), start)
	fills(y.l, y.m, 0, api.None, list...)
	y.obeys(thread.Gives)
	y.gives(giveOf(y, ready.Yields), api.EvYield)
	if w := y.is(y.word(layout.GlobSize)); w != api.Half+1 {
		t.Errorf("GlobSize: %d", w)
	}
	y.plain(acts.Load(y.proc(layout.Preempt)))
}

// Promise 27.1: a goroutine that is preempted lies behind those of the queue, and the one that waits longest is found.
func TestPreemptedComesBehind(t *testing.T) {
	y := running(t, 9)
	acts.All(t, y.m, globq.New(y.l, 99, []int{7, 8}))
	y.store(y.proc(layout.Preempt), 1)
	y.preempted()
	if list, right := globq.List(y.l, y.m); !right || !slices.Equal(list, []int{7, 8, 0}) {
		t.Errorf("the queue: %v", list)
	}
	y.finds(nil, thread.Starts)
	y.starts(7, false)
	y.noBad()
}

// Promise 27.3: all instructions, one behind the other, of one goroutine alone: its events are those of its program, and none of an InCompute.
func TestAllInstructions(t *testing.T) {
	y := running(t, 1, 2+8, 3, 6, 9, 5+8*3, 0, 7, 4)
	y.store(y.word(layout.Gs), 3)
	y.store(y.word(layout.Threads), 1)
	want := []api.Event{
		{Kind: api.EvSpawn, Other: 3}, {Kind: api.EvYield}, {Kind: api.EvStart, G: 3}, {Kind: api.EvPark, G: 3}, {Kind: api.EvStart},
		{Kind: api.EvEnter}, {Kind: api.EvReturn}, {Kind: api.EvReady, Other: 3}, {Kind: api.EvExit}, {Kind: api.EvStart, G: 3}, {Kind: api.EvExit, G: 3},
	}
	var got []api.Event
	for range 400 {
		y.x.Step(y.m)
		y.x.Return()
		if e, told := y.x.Event(); told {
			got = append(got, e)
		}
	}
	for i := range want {
		if want[i].Other == 0 {
			want[i].Other = api.None
		}
	}
	if !slices.Equal(got, want) || y.m.Bad() != 0 {
		t.Errorf("events: %v; bad %d", got, y.m.Bad())
	}
}

// Promise 27.2: Turns that tell of the queue first: one that is taken there starts with a turn of its own.
func TestTakenStarts(t *testing.T) {
	l, m := lay(t)
	m.Store(99, l.Proc(0, layout.Turns), 61)
	acts.All(t, m, globq.New(l, 99, []int{4}))
	fills(l, m, 0, 5, 6)
	y := begin(t, l, m, arena(t, 9), 0, nil)
	y.finds(nil, thread.Starts)
	y.starts(4, false)
	if w := y.is(y.proc(layout.Turns)); w != 62 {
		t.Errorf("Turns: %d", w)
	}
}
