package custody_test

import (
	"math"
	"slices"
	"testing"

	"turnspit/acts"
	"turnspit/api"
	"turnspit/custody"
	"turnspit/globq"
	"turnspit/idlep"
	"turnspit/layout"
	"turnspit/thread"
	"turnspit/wake"
	"turnspit/world"
)

const (
	round = 1 << 32  // where Head and Tail go round
	long  = 8*15 + 1 // the word of an InCompute that goes on for long
)

// places are some places, written down.
type places = []custody.Place

// at is one place.
func at(kind, of int) places {
	return places{{Kind: kind, Of: of}}
}

// open is a world.
func open(t *testing.T, c api.Config, words ...uint64) *world.World {
	t.Helper()
	x, e := world.New(c, words, nil)
	if e != api.OK {
		t.Fatalf("New of %v: %v", c, e)
	}
	return x
}

// wide is a world of three processors, five threads and nine goroutines.
func wide(t *testing.T, words ...uint64) *world.World {
	t.Helper()
	return open(t, api.Config{Procs: 3, Threads: 5, Gs: 9}, words...)
}

// step lets a thread do a step.
func step(x *world.World, t int) {
	x.Do(api.Entry{Kind: api.EnStep, Who: t})
}

// until steps a thread until something is so.
func until(t *testing.T, x *world.World, one int, is func() bool) {
	t.Helper()
	for n := 0; !is(); n++ {
		if n > 1000 {
			t.Fatalf("thread %d does %d, and it never is so", one, x.Thread(one).Does())
		}
		step(x, one)
	}
}

// happened tells whether the last entry had an event of a kind.
func happened(x *world.World, kind int) func() bool {
	return func() bool {
		e, told := x.Event()
		return told && e.Kind == kind
	}
}

// g holds a goroutine's places.
func g(t *testing.T, x *world.World, g int, want places) {
	t.Helper()
	if got := custody.G(x, g); !slices.Equal(got, want) || !slices.Equal(custody.Gs(x)[g], want) {
		t.Errorf("%d is at %v, of all %v, want %v", g, got, custody.Gs(x)[g], want)
	}
}

// proc holds a processor's places.
func proc(t *testing.T, x *world.World, p int, want places) {
	t.Helper()
	if got := custody.Proc(x, p); !slices.Equal(got, want) || !slices.Equal(custody.Procs(x)[p], want) {
		t.Errorf("processor %d is at %v, of all %v, want %v", p, got, custody.Procs(x)[p], want)
	}
}

// numbers are numbers that are nobody's.
func numbers(many int) []int {
	return []int{math.MinInt, -2, api.None, many, many + 1, 1 << 32, math.MaxInt}
}

// Kinds have the numbers of the chapter, in its order.
func TestKinds(t *testing.T) {
	for i, kind := range []int{custody.AtRing, custody.AtNext, custody.AtQueue, custody.InHand, custody.Running, custody.Calling, custody.Waiting} {
		if kind != i+1 {
			t.Errorf("%d is %d", i+1, kind)
		}
	}
	for i, kind := range []int{custody.Idle, custody.Had, custody.Handed, custody.Given, custody.Taken, custody.Left} {
		if kind != i+1 {
			t.Errorf("%d is %d", i+1, kind)
		}
	}
}

// Worlds that there are not: none, and one that nobody made; and who there is not.
func TestNoWorld(t *testing.T) {
	var none *world.World
	for _, x := range []*world.World{none, {}} {
		for _, n := range append(numbers(1), 0) {
			if len(custody.G(x, n)) != 0 || len(custody.Proc(x, n)) != 0 || custody.Kept(x, n) || custody.Count(x, n) != 0 {
				t.Errorf("%d is somewhere", n)
			}
		}
		if len(custody.Gs(x)) != 0 || len(custody.Procs(x)) != 0 {
			t.Errorf("places: %v, %v", custody.Gs(x), custody.Procs(x))
		}
	}
	if custody.Right(none) {
		t.Errorf("no world is right")
	}
	x := wide(t)
	for _, n := range numbers(9) {
		if len(custody.G(x, n)) != 0 || custody.Kept(x, n) || custody.Count(x, n) != 0 {
			t.Errorf("goroutine %d is somewhere", n)
		}
	}
	for _, n := range numbers(3) {
		if len(custody.Proc(x, n)) != 0 {
			t.Errorf("processor %d is somewhere", n)
		}
	}
}

// The chapter's example; and all is right at the beginning.
func TestExample(t *testing.T) {
	x := open(t, api.Config{Procs: 2, Threads: 2, Gs: 3}, 9)
	g(t, x, 0, at(custody.AtRing, 0))
	g(t, x, 1, nil)
	proc(t, x, 0, at(custody.Had, 0))
	proc(t, x, 1, at(custody.Idle, 0))
	if !custody.Right(x) || !custody.Kept(x, 0) || !custody.Kept(x, 2) || custody.Count(x, custody.AtRing) != 1 || custody.Count(x, custody.AtNext) != 0 {
		t.Errorf("it is not right")
	}
	if len(custody.Gs(x)) != 3 || len(custody.Procs(x)) != 2 {
		t.Errorf("of %d goroutines, and %d processors", len(custody.Gs(x)), len(custody.Procs(x)))
	}
}

// Promise 30.1: who lies in a ring lies between Head and Tail, also where these go round; a word that is none is nobody's.
func TestAtRing(t *testing.T) {
	x := wide(t)
	l, m := x.Layout(), x.Mem()
	m.Store(99, l.Proc(2, layout.Head), round-2)
	m.Store(99, l.Proc(2, layout.Tail), 2)
	for i, w := range []uint64{8, 0, 4, 5, 0, 6} { // the first one, and the last one, do not lie between
		m.Store(99, l.Ring(2, uint64(round-3+i)), w)
	}
	for n, want := range map[int]places{7: nil, 3: at(custody.AtRing, 2), 4: at(custody.AtRing, 2), 5: nil, 0: at(custody.AtRing, 0)} {
		g(t, x, n, want)
	}
	m.Store(99, l.Ring(2, 1), 6)
	g(t, x, 5, at(custody.AtRing, 2))
	for _, w := range []uint64{10, 1 << 32, 1<<32 + 6, 1 << 63, math.MaxUint64} {
		m.Store(99, l.Ring(2, 1), w)
		m.Store(99, l.Proc(1, layout.Next), w)
		for n := range 9 {
			if n != 0 && n != 3 && n != 4 {
				g(t, x, n, nil)
			}
		}
	}
}

// Promise 30.1: all places of one, by rising Kinds, and of one Kind by rising numbers; twice in one ring are two.
func TestOrder(t *testing.T) {
	x := wide(t)
	l, m := x.Layout(), x.Mem()
	for _, p := range []int{2, 0} {
		m.Store(99, l.Proc(p, layout.Tail), 3)
		for i, w := range []uint64{7, 4, 7} {
			m.Store(99, l.Ring(p, uint64(i)), w)
		}
		m.Store(99, l.Proc(p, layout.Next), 7)
	}
	acts.All(t, m, globq.New(l, 99, []int{3, 6, 1}))
	m.Store(99, l.G(6, layout.GStatus), api.GWaiting)
	g(t, x, 6, places{
		{custody.AtRing, 0}, {custody.AtRing, 0}, {custody.AtRing, 2}, {custody.AtRing, 2}, {custody.AtNext, 0}, {custody.AtNext, 2}, {custody.AtQueue, 0}, {custody.Waiting, 0},
	})
	g(t, x, 3, places{{custody.AtRing, 0}, {custody.AtRing, 2}, {custody.AtQueue, 0}})
	g(t, x, 1, at(custody.AtQueue, 0))
	for kind, n := range map[int]int{custody.AtRing: 6, custody.AtNext: 2, custody.AtQueue: 3, custody.Waiting: 1, custody.InHand: 0, custody.Running: 0, 0: 0, -1: 0, 8: 0} {
		if custody.Count(x, kind) != n {
			t.Errorf("of the Kind %d are %d, want %d", kind, custody.Count(x, kind), n)
		}
	}
	if l := custody.Gs(x); len(l) == 9 { // what is handed out is nobody else's
		l[6][0], l[3][0] = custody.Place{}, custody.Place{}
		_ = append(l[6][:1], l[6][2:]...)
		g(t, x, 1, at(custody.AtQueue, 0))
		if custody.G(x, 6)[0] != (custody.Place{Kind: custody.AtRing}) || len(custody.G(x, 6)) != 8 {
			t.Errorf("what was handed out is what is kept")
		}
	}
	for n := range 9 {
		if custody.Kept(x, n) != (n != 0 && n != 6 && n != 3 && n != 1) {
			t.Errorf("%d is kept: %v; it is at %v", n, custody.Kept(x, n), custody.G(x, n))
		}
	}
}

// Promise 30.1: a goroutine is found, is in the hand, and runs; within a call from EvEnter on, until it comes out and runs.
func TestRunsAndCalls(t *testing.T) {
	x := open(t, api.Config{Procs: 2, Threads: 2, Gs: 2}, 6, 3)
	until(t, x, 0, func() bool { return len(x.Thread(0).Holds()) == 1 })
	g(t, x, 0, at(custody.InHand, 0))
	until(t, x, 0, happened(x, api.EvStart))
	want, kinds := custody.Running, map[int]int{}
	for n := 0; x.Thread(0).Does() != thread.Gives; n++ {
		if n > 100 {
			t.Fatalf("it does not go on: %d", x.Thread(0).Does())
		}
		if happened(x, api.EvEnter)() {
			want = custody.Calling
		}
		if happened(x, api.EvReturn)() {
			want = custody.Running
		}
		g(t, x, 0, at(want, 0))
		if !custody.Kept(x, 0) || !custody.Right(x) {
			t.Errorf("step %d: it is not right", n)
		}
		kinds[x.Thread(0).Does()*10+want]++
		if x.Thread(0).Does() == thread.InCall && n%3 == 0 {
			x.Do(api.Entry{Kind: api.EnReturn})
		} else {
			step(x, 0)
		}
	}
	for _, n := range []int{thread.GoesIn*10 + custody.Running, thread.GoesIn*10 + custody.Calling, thread.InCall*10 + custody.Calling, thread.ComesOut*10 + custody.Calling, thread.Runs*10 + custody.Running} {
		if kinds[n] == 0 {
			t.Errorf("it never was so: %d", n)
		}
	}
}

// Promise 30.1: within going in it is EvEnter that tells that a goroutine is in a call, whatever its Status.
func TestEnterTells(t *testing.T) {
	x := open(t, api.Config{Procs: 1, Threads: 1, Gs: 1}, 6)
	at0 := x.Layout().G(0, layout.GStatus)
	until(t, x, 0, func() bool { return x.Thread(0).Does() == thread.GoesIn })
	x.Mem().Store(99, at0, api.GSyscall)
	g(t, x, 0, at(custody.Running, 0))
	until(t, x, 0, happened(x, api.EvEnter))
	for x.Thread(0).Does() == thread.GoesIn {
		for _, status := range []uint64{api.GRunning, api.GRunnable, api.GDead, 99, api.GSyscall} {
			x.Mem().Store(99, at0, status)
			g(t, x, 0, at(custody.Calling, 0))
			if custody.Kept(x, 0) != (status == api.GSyscall) {
				t.Errorf("Status %d: kept %v", status, custody.Kept(x, 0))
			}
		}
		step(x, 0)
	}
}

// taken is a world of one processor, whose thread 0 is in a call with goroutine 0, while thread 1 was given the processor.
func taken(t *testing.T) *world.World {
	t.Helper()
	x := open(t, api.Config{Procs: 1, Threads: 2, Gs: 2}, 10, 6, 7, long, long)
	until(t, x, 0, func() bool { return x.Thread(0).Does() == thread.InCall })
	proc(t, x, 0, at(custody.Left, 0))
	for n := 0; x.Mon().Hand() == api.None; n++ {
		if n > 200 {
			t.Fatalf("the monitor does not take it")
		}
		x.Do(api.Entry{Kind: api.EnMon})
	}
	for n := 0; x.Mon().Hand() != api.None; n++ {
		if n > 200 {
			t.Fatalf("the monitor does not hand it over")
		}
		proc(t, x, 0, at(custody.Taken, 0))
		x.Do(api.Entry{Kind: api.EnMon})
	}
	return x
}

// Promise 30.1: who comes out, and does not run, is in the hand, and then lies in the queue; a processor that is left is taken, given, and had.
func TestQueueAndTaken(t *testing.T) {
	x := taken(t)
	proc(t, x, 0, at(custody.Given, 1))
	g(t, x, 1, at(custody.AtNext, 0))
	for n := 0; n < 2; n++ {
		x.Do(api.Entry{Kind: api.EnMon}) // it wakes thread 1
	}
	until(t, x, 1, func() bool { return x.Thread(1).P() == 0 })
	proc(t, x, 0, at(custody.Had, 1))
	until(t, x, 1, func() bool { return x.Thread(1).Does() == thread.Runs })
	g(t, x, 1, at(custody.Running, 1))
	x.Do(api.Entry{Kind: api.EnReturn})
	g(t, x, 0, at(custody.Calling, 0))
	until(t, x, 0, happened(x, api.EvQueue))
	for n := 0; len(x.Thread(0).Holds()) > 0 && n < 50; n++ {
		g(t, x, 0, at(custody.InHand, 0))
		step(x, 0)
	}
	g(t, x, 0, at(custody.AtQueue, 0))
	if !custody.Right(x) || custody.Count(x, custody.AtQueue) != 1 || custody.Count(x, custody.Running) != 1 {
		t.Errorf("it is not right: %v, %v", custody.Gs(x), custody.Procs(x))
	}
}

// Promise 30.1: an idle processor that a thread wakes another one with is handed, given, and had.
func TestHanded(t *testing.T) {
	x := open(t, api.Config{Procs: 2, Threads: 2, Gs: 3}, 10, long, 7, long)
	until(t, x, 0, func() bool { return x.Thread(0).Hand() == 1 })
	for n := 0; x.Thread(0).Hand() == 1 && n < 50; n++ {
		proc(t, x, 1, at(custody.Handed, 0))
		proc(t, x, 0, at(custody.Had, 0))
		step(x, 0)
	}
	proc(t, x, 1, at(custody.Given, 1))
	step(x, 0)
	until(t, x, 1, func() bool { return x.Thread(1).P() == 1 })
	proc(t, x, 1, at(custody.Had, 1))
	if !custody.Right(x) {
		t.Errorf("it is not right: %v, %v", custody.Gs(x), custody.Procs(x))
	}
}

// Promises 30.1 and 30.2: who is in a call by one thread, and runs by another one, has both places, and is not kept.
func TestRunsByTwo(t *testing.T) {
	x := wide(t, 6, long, long)
	l, m := x.Layout(), x.Mem()
	until(t, x, 0, func() bool { return x.Thread(0).Does() == thread.InCall })
	m.Store(99, l.Word(layout.Threads), 3)
	m.Store(99, l.Proc(1, layout.Next), 1)
	m.Store(99, l.Thread(2, layout.Given), wake.Word(1, false))
	m.Store(99, l.Thread(2, layout.Note), 1)
	until(t, x, 2, happened(x, api.EvStart))
	g(t, x, 0, places{{custody.Running, 2}, {custody.Calling, 0}})
	for _, status := range []uint64{api.GRunning, api.GSyscall} {
		m.Store(99, l.G(0, layout.GStatus), status)
		if custody.Kept(x, 0) || custody.Right(x) {
			t.Errorf("with the Status %d it is kept", status)
		}
	}
}

// Promise 30.1: a processor's places, by rising Kinds; whoever has it, it is not left.
func TestProcOrder(t *testing.T) {
	x := wide(t)
	l, m := x.Layout(), x.Mem()
	for _, one := range []int{4, 1, 2} {
		m.Store(99, l.Thread(one, layout.Given), wake.Word(1, one == 2))
	}
	m.Store(99, l.Proc(1, layout.Status), api.PSyscall)
	m.Store(99, l.Proc(0, layout.Status), api.PSyscall)
	proc(t, x, 1, places{{custody.Idle, 0}, {custody.Given, 1}, {custody.Given, 2}, {custody.Given, 4}, {custody.Left, 0}})
	proc(t, x, 0, at(custody.Had, 0))
	proc(t, x, 2, at(custody.Idle, 0))
	acts.All(t, m, idlep.New(l, 99, 0))
	proc(t, x, 0, places{{custody.Idle, 0}, {custody.Had, 0}})
	for _, w := range []uint64{0, 4, 1 << 32, 1<<32 - 1} {
		m.Store(99, l.Thread(3, layout.Given), w)
		if n := len(custody.Proc(x, 0)) + len(custody.Proc(x, 1)) + len(custody.Proc(x, 2)); n != 8 {
			t.Errorf("given %d: %d places", w, n)
		}
	}
}

// Promise 30.2: who has one place is kept with the Status that suits it, and with no other one; who has none is idle or dead.
func TestKept(t *testing.T) {
	inHand := wide(t, 6)
	until(t, inHand, 0, func() bool { return len(inHand.Thread(0).Holds()) == 1 })
	runs := wide(t, 6)
	until(t, runs, 0, happened(runs, api.EvStart))
	calls := wide(t, 6)
	until(t, calls, 0, func() bool { return calls.Thread(0).Does() == thread.InCall })
	queue := wide(t)
	queue.Mem().Store(99, queue.Layout().Proc(0, layout.Head), 1)
	acts.All(t, queue.Mem(), globq.New(queue.Layout(), 99, []int{0}))
	next := wide(t)
	next.Mem().Store(99, next.Layout().Proc(0, layout.Head), 1)
	next.Mem().Store(99, next.Layout().Proc(2, layout.Next), 1)
	nowhere := wide(t)
	nowhere.Mem().Store(99, nowhere.Layout().Proc(0, layout.Head), 1)
	for _, c := range []struct {
		x    *world.World
		at   places
		want uint64
	}{
		{wide(t), at(custody.AtRing, 0), api.GRunnable}, {next, at(custody.AtNext, 2), api.GRunnable}, {queue, at(custody.AtQueue, 0), api.GRunnable},
		{inHand, at(custody.InHand, 0), api.GRunnable}, {runs, at(custody.Running, 0), api.GRunning}, {calls, at(custody.Calling, 0), api.GSyscall}, {nowhere, nil, api.GWaiting},
	} {
		for _, status := range []uint64{api.GIdle, api.GRunnable, api.GRunning, api.GWaiting, api.GSyscall, api.GDead, 6, 77, 1 << 32, 1<<32 + c.want, math.MaxUint64} {
			c.x.Mem().Store(99, c.x.Layout().G(0, layout.GStatus), status)
			is := c.at
			if status == api.GWaiting {
				is = append(slices.Clone(is), custody.Place{Kind: custody.Waiting})
			}
			g(t, c.x, 0, is)
			none := c.at == nil && (status == api.GIdle || status == api.GDead)
			if kept := custody.Kept(c.x, 0); kept != (status == c.want || none) || custody.Right(c.x) != kept {
				t.Errorf("%v with the Status %d: kept %v, right %v", is, status, kept, custody.Right(c.x))
			}
		}
	}
}

// Promise 30.2: what is not right, while all goroutines are kept: a processor that has no place, or two, and rings and lists that may not be.
func TestNotRight(t *testing.T) {
	for what, spoil := range map[string]func(x *world.World, store func(at int, w uint64)){
		"idle, and had":     func(x *world.World, store func(at int, w uint64)) { acts.All(t, x.Mem(), idlep.New(x.Layout(), 99, 0)) },
		"idle, and given":   func(x *world.World, store func(at int, w uint64)) { store(x.Layout().Thread(3, layout.Given), 2) },
		"idle, and left":    func(x *world.World, store func(at int, w uint64)) { store(x.Layout().Proc(2, layout.Status), 2) },
		"nowhere":           func(x *world.World, store func(at int, w uint64)) { store(x.Layout().Word(layout.IdleP), 3) },
		"a word in a ring":  func(x *world.World, store func(at int, w uint64)) { store(x.Layout().Proc(2, layout.Tail), 1) },
		"a long ring":       func(x *world.World, store func(at int, w uint64)) { store(x.Layout().Proc(0, layout.Head), 2) },
		"no such next one":  func(x *world.World, store func(at int, w uint64)) { store(x.Layout().Proc(1, layout.Next), 10) },
		"no such in queue":  func(x *world.World, store func(at int, w uint64)) { store(x.Layout().Word(layout.GlobHead), 10) },
		"no such idle one":  func(x *world.World, store func(at int, w uint64)) { store(x.Layout().Proc(2, layout.PLink), 4) },
		"idle ones in ring": func(x *world.World, store func(at int, w uint64)) { store(x.Layout().Proc(2, layout.PLink), 2) },
	} {
		x := wide(t)
		if !custody.Right(x) {
			t.Errorf("it is not right")
		}
		spoil(x, func(at int, w uint64) { x.Mem().Store(99, at, w) })
		if custody.Right(x) {
			t.Errorf("%s: it is right", what)
		}
	}
	x := wide(t) // in a ring in which all places are alike nobody can lie once
	x.Mem().Store(99, x.Layout().Proc(0, layout.Tail), 2)
	x.Mem().Store(99, x.Layout().Ring(0, 1), 1)
	if custody.Right(x) || custody.Kept(x, 0) {
		t.Errorf("twice in one ring: it is right")
	}
}
