package quiet_test

import (
	"math"
	"testing"

	"turnspit/acts"
	"turnspit/api"
	"turnspit/globq"
	"turnspit/idlep"
	"turnspit/layout"
	"turnspit/quiet"
	"turnspit/thread"
	"turnspit/wake"
	"turnspit/world"
)

const long = 8*15 + 1 // the word of an InCompute that goes on for long

// open is a world.
func open(t *testing.T, c api.Config, words ...uint64) *world.World {
	t.Helper()
	x, e := world.New(c, words, nil)
	if e != api.OK {
		t.Fatalf("New of %v: %v", c, e)
	}
	return x
}

// step lets a thread do a step, watch lets the monitor do one.
func step(x *world.World, t int) { x.Do(api.Entry{Kind: api.EnStep, Who: t}) }
func watch(x *world.World)       { x.Do(api.Entry{Kind: api.EnMon}) }

// until steps a thread until something is so.
func until(t *testing.T, x *world.World, one int, is func() bool) {
	t.Helper()
	for n := 0; !is(); n++ {
		if n > 1000 {
			t.Fatalf("thread %d does %d, and it never is so", one, x.Thread(one).Does())
		}
		step(x, one)
	}
}

// rests steps a thread until it is at rest.
func rests(t *testing.T, x *world.World, one int) {
	t.Helper()
	until(t, x, one, func() bool { return quiet.AtRest(x, one) })
}

// told is what is told of a world.
type told struct{ quiet, work, room, fine bool }

// tells holds what is told of a world.
func tells(t *testing.T, x *world.World, want told) {
	t.Helper()
	if got := (told{quiet.Quiet(x), quiet.Work(x), quiet.Room(x), quiet.Fine(x)}); got != want {
		t.Errorf("told %v, want %v", got, want)
	}
}

// counts holds how many count, and how many are missing.
func counts(t *testing.T, x *world.World, spinning, spare int) {
	t.Helper()
	if quiet.Spinning(x) != spinning || quiet.Spare(x) != spare {
		t.Errorf("%d count, want %d; %d are missing, want %d", quiet.Spinning(x), spinning, quiet.Spare(x), spare)
	}
}

// Worlds that there are not: none, and one that nobody made; and threads that there are not.
func TestNoWorld(t *testing.T) {
	var none *world.World
	tells(t, none, told{})
	for _, x := range []*world.World{none, {}} {
		if quiet.Work(x) || quiet.Room(x) {
			t.Errorf("there is work, or room")
		}
		counts(t, x, 0, 0)
		for _, n := range []int{math.MinInt, -1, 0, 1, math.MaxInt} {
			if quiet.AtRest(x, n) {
				t.Errorf("thread %d is at rest", n)
			}
		}
		quiet.Quiet(x)
		quiet.Fine(x)
	}
	x := open(t, api.Config{Procs: 2, Threads: 3, Gs: 1})
	for _, n := range []int{math.MinInt, -1, 3, 4, 256, math.MaxInt} {
		if quiet.AtRest(x, n) {
			t.Errorf("thread %d is at rest", n)
		}
	}
}

// The chapter's example: at the beginning the world is not quiet, as thread 0 looks for work; all others are not there.
func TestBeginning(t *testing.T) {
	x := open(t, api.Config{Procs: 2, Threads: 3, Gs: 1}, long)
	tells(t, x, told{work: true, room: true, fine: true})
	counts(t, x, 0, 1)
	if quiet.AtRest(x, 0) || !quiet.AtRest(x, 1) || !quiet.AtRest(x, 2) {
		t.Errorf("at rest: %v, %v, %v", quiet.AtRest(x, 0), quiet.AtRest(x, 1), quiet.AtRest(x, 2))
	}
	tells(t, open(t, api.Config{Procs: 1, Threads: 1, Gs: 1}), told{work: true, fine: true})
}

// Promise 31.1: a thread is at rest, if it is asleep, or in a call that did not return, or lets its goroutine go on.
func TestAtRest(t *testing.T) {
	x := open(t, api.Config{Procs: 1, Threads: 1, Gs: 1}, long, 6)
	seen := map[int]int{}
	for n := 0; n < 3 || !x.Thread(0).Blocked(x.Mem()); n++ {
		does := x.Thread(0).Does()
		want := does == thread.Runs || does == thread.InCall
		if quiet.AtRest(x, 0) != want || quiet.Quiet(x) != want {
			t.Errorf("step %d: it does %d; at rest %v, quiet %v", n, does, quiet.AtRest(x, 0), quiet.Quiet(x))
		}
		seen[does]++
		step(x, 0)
		if does == thread.GoesIn && x.Thread(0).Does() == thread.InCall {
			tells(t, x, told{quiet: true, fine: true})
			if !quiet.AtRest(x, 0) {
				t.Errorf("in a call it is not at rest")
			}
			x.Do(api.Entry{Kind: api.EnReturn})
			if quiet.AtRest(x, 0) || quiet.Quiet(x) {
				t.Errorf("its call returned, and it is at rest")
			}
		}
		if n > 200 {
			t.Fatalf("it does not end")
		}
	}
	if !quiet.AtRest(x, 0) || seen[thread.Runs] < 16 || seen[thread.ComesOut] < 3 || seen[thread.Starts] < 3 || seen[thread.Ends] < 3 {
		t.Errorf("asleep it is not at rest, or did not do what there is: %v", seen)
	}
	tells(t, x, told{quiet: true, room: true, fine: true})
	x.Mem().Store(99, x.Layout().Thread(0, layout.Note), 1)
	if quiet.AtRest(x, 0) || quiet.Quiet(x) {
		t.Errorf("it was woken, and is at rest")
	}
}

// Promise 31.1: a new thread is there from the step on at which it is got, and is at rest once it is asleep; one that is not there is at rest.
func TestNewThread(t *testing.T) {
	x := open(t, api.Config{Procs: 1, Threads: 3, Gs: 1}, long)
	rests(t, x, 0)
	tells(t, x, told{quiet: true, fine: true})
	for made := 1; made <= 3; made++ {
		x.Mem().Store(99, x.Layout().Word(layout.Threads), uint64(made))
		for one := 1; one < 3; one++ {
			there := one < made && !x.Thread(one).Blocked(x.Mem())
			if quiet.AtRest(x, one) == there {
				t.Errorf("of %d: thread %d is at rest: %v", made, one, !there)
			}
		}
		if quiet.Quiet(x) != (made == 1) {
			t.Errorf("of %d: quiet %v", made, quiet.Quiet(x))
		}
		step(x, made-1) // a new one looks at its note
	}
	rests(t, x, 2)
	tells(t, x, told{quiet: true, fine: true})
}

// Promise 31.1: within a pass the world is not quiet, between two it is.
func TestMonitor(t *testing.T) {
	x := open(t, api.Config{Procs: 1, Threads: 1, Gs: 1}, long, long, long)
	rests(t, x, 0)
	for n := range 60 {
		if quiet.Quiet(x) != x.Mon().Between() || !quiet.AtRest(x, 0) {
			t.Errorf("step %d: quiet %v, between %v", n, quiet.Quiet(x), x.Mon().Between())
		}
		watch(x)
	}
	if x.Mon().Passes() < 10 {
		t.Errorf("%d passes", x.Mon().Passes())
	}
}

// Promise 31.1: there is work in any ring, as any next one, and in the queue, and nowhere else; there is room on the list of idle ones.
func TestWorkAndRoom(t *testing.T) {
	c := api.Config{Procs: 3, Threads: 3, Gs: 4}
	still := func() *world.World {
		x := open(t, c, long)
		rests(t, x, 0)
		tells(t, x, told{quiet: true, room: true, fine: true})
		return x
	}
	for p := range c.Procs {
		x := still()
		l, m := x.Layout(), x.Mem()
		m.Store(99, l.Proc(p, layout.Next), 3)
		tells(t, x, told{quiet: true, work: true, room: true})
		m.Store(99, l.Proc(p, layout.Next), 0)
		tail, _ := m.Peek(l.Proc(p, layout.Tail))
		m.Store(99, l.Proc(p, layout.Tail), tail+1)
		tells(t, x, told{quiet: true, work: true, room: true})
		m.Store(99, l.Proc(p, layout.Head), tail+1)
		tells(t, x, told{quiet: true, room: true, fine: true})
	}
	x := still()
	l, m := x.Layout(), x.Mem()
	acts.All(t, m, globq.New(l, 99, []int{2}))
	tells(t, x, told{quiet: true, work: true, room: true})
	acts.All(t, m, idlep.NewGet(l, 99))
	tells(t, x, told{quiet: true, work: true, room: true})
	acts.All(t, m, idlep.NewGet(l, 99))
	tells(t, x, told{quiet: true, work: true, fine: true})
	acts.All(t, m, idlep.New(l, 99, 2))
	watch(x)
	tells(t, x, told{work: true, room: true, fine: true})
	acts.All(t, m, globq.NewPull(l, 99))
	tells(t, x, told{room: true, fine: true})
}

// Promise 31.2: who spins counts, who was given something that spins, until that is taken, and who wakes some thread, by itself.
func TestSpinning(t *testing.T) {
	x := open(t, api.Config{Procs: 4, Threads: 4, Gs: 3}, 10, long, 7, long)
	l := x.Layout()
	spinning := func() uint64 { w, _ := x.Mem().Peek(l.Word(layout.Spinning)); return w }
	until(t, x, 0, func() bool { return spinning() == 1 })
	if !x.Thread(0).Counts() || x.Thread(0).Spins() {
		t.Errorf("it does not count by itself")
	}
	counts(t, x, 1, 0)
	until(t, x, 0, func() bool { return !x.Thread(0).Counts() })
	counts(t, x, 0, 1) // it starts a thread, which does not count yet
	until(t, x, 0, func() bool { return x.Thread(0).Hand() == api.None })
	counts(t, x, 1, 0) // that was given something that spins
	step(x, 0)
	until(t, x, 1, func() bool { return x.Thread(1).Spins() })
	counts(t, x, 1, 0)
	until(t, x, 1, func() bool { return x.Thread(1).Does() == thread.CountsOut })
	counts(t, x, 1, 0)
	step(x, 1)
	counts(t, x, 0, 0)
	if spinning() != 0 {
		t.Errorf("Spinning is %d", spinning())
	}
	for i, w := range []uint64{wake.Word(0, false), wake.Word(1, true), 1 << 32, 1<<33 + 5} {
		x.Mem().Store(99, l.Thread(3, layout.Given), w)
		counts(t, x, []int{0, 1, 1, 1}[i], 0)
		x.Mem().Store(99, l.Thread(2, layout.Given), w)
		counts(t, x, []int{0, 2, 2, 2}[i], 0)
		x.Mem().Store(99, l.Thread(2, layout.Given), 0)
	}
}

// Promise 31.2: the monitor counts, while it counts by itself.
func TestMonitorCounts(t *testing.T) {
	x := open(t, api.Config{Procs: 1, Threads: 2, Gs: 1}, 6)
	until(t, x, 0, func() bool { return x.Thread(0).Does() == thread.InCall })
	before, after := 0, 0
	for n := 0; x.Made() < 2; n++ {
		if n > 300 {
			t.Fatalf("the monitor starts no thread")
		}
		if x.Mon().Counts() {
			before++
			counts(t, x, 1, 1)
		} else {
			after++
			counts(t, x, 0, 1)
		}
		watch(x)
	}
	counts(t, x, 0, 0)
	for n := 0; quiet.Spinning(x) == 0 && n < 10; n++ {
		watch(x)
	}
	counts(t, x, 1, 0) // it was given
	if before < 3 || after < 5 {
		t.Errorf("it counted for %d steps, and did not for %d", before, after)
	}
}

// Promise 31.2: how many are missing is told of the words.
func TestSpare(t *testing.T) {
	x := open(t, api.Config{Procs: 2, Threads: 7, Gs: 1})
	l := x.Layout()
	for _, c := range []struct {
		threads, idleMs, idlePs uint64
		want                    int
	}{
		{1, 0, 1, 5}, {1, 0, 0, 6}, {7, 0, 0, 0}, {7, 0, 2, -2}, {7, 7, 0, 7}, {7, 3, 2, 1}, {0, 0, 0, 7}, {9, 0, 1, -3},
		{1 << 31, 0, 4, -4}, {1<<31 - 1, 0, 0, 8 - 1<<31}, {0, 1 << 31, 4, -4}, {0, 1<<31 - 1, 4, 2 + 1<<31},
	} {
		x.Mem().Store(99, l.Word(layout.Threads), c.threads)
		x.Mem().Store(99, l.Word(layout.IdleMs), c.idleMs)
		x.Mem().Store(99, l.Word(layout.IdlePs), c.idlePs)
		if got := quiet.Spare(x); got != c.want {
			t.Errorf("of %d threads, %d and %d idle: %d, want %d", c.threads, c.idleMs, c.idlePs, got, c.want)
		}
	}
}
