package model_test

import (
	"math"
	"testing"

	"turnspit/api"
	"turnspit/code"
	"turnspit/model"
)

// conf is the config of most models here.
var conf = api.Config{Procs: 2, Threads: 2, Gs: 4}

// open is a model of the programs of words.
func open(t *testing.T, words ...uint64) *model.Model {
	t.Helper()
	x, e := model.New(code.Read(words), conf)
	if e != api.OK || x == nil {
		t.Fatalf("New: %v", e)
	}
	return x
}

// event is an event of a goroutine by thread 0, with processor 0.
func event(kind, g int) api.Event {
	return api.Event{Kind: kind, G: g, Other: api.None}
}

// with is one that has another goroutine.
func with(kind, g, other int) api.Event {
	return api.Event{Kind: kind, G: g, Other: other}
}

// by is an event by another thread, with another processor.
func by(e api.Event, thread, proc int) api.Event {
	e.Thread, e.Proc = thread, proc
	return e
}

// may does an event that may be.
func may(t *testing.T, x *model.Model, e api.Event) {
	t.Helper()
	if !x.May(e) || !x.May(e) {
		t.Errorf("%v may be", e)
	}
	if got := x.Do(e); got != api.OK {
		t.Errorf("Do of %v: %v", e, got)
	}
}

// not does an event that may not be.
func not(t *testing.T, x *model.Model, list ...api.Event) {
	t.Helper()
	for _, e := range list {
		before := look(x)
		if got := x.Do(e); x.May(e) || got != api.ErrRule {
			t.Errorf("%v may not be: %v", e, got)
		}
		if look(x) != before {
			t.Errorf("%v, which may not be, changes %v", e, before)
		}
	}
}

// seen is what a model tells of its goroutines.
type seen [6]struct {
	what, program int
	next          api.Instr
}

// look is what a model tells of its first goroutines.
func look(x *model.Model) seen {
	var s seen
	for g := range s {
		s[g].what, s[g].program, s[g].next = x.What(g), x.Program(g), x.Next(g)
	}
	return s
}

// is holds what a goroutine is, and its next instruction.
func is(t *testing.T, x *model.Model, g, what, kind, arg int) {
	t.Helper()
	if x.What(g) != what || x.Next(g) != (api.Instr{Kind: kind, Arg: arg}) {
		t.Errorf("%d is %d, its next one %v, want %d, %d %d", g, x.What(g), x.Next(g), what, kind, arg)
	}
}

// numbers are numbers of goroutines, threads and processors that there are not.
func numbers() []int {
	return []int{math.MinInt, -2, api.None, conf.Gs, 1 << 32, math.MaxInt}
}

// Models that there are not: none, and one that nobody made.
func TestNoModel(t *testing.T) {
	var none *model.Model
	for _, x := range []*model.Model{none, {}} {
		for kind := -1; kind <= 12; kind++ {
			for _, g := range append(numbers(), 0) {
				if x.May(event(kind, g)) || x.Do(event(kind, g)) == api.OK {
					t.Errorf("an event %d may be", kind)
				}
			}
		}
		for _, g := range append(numbers(), 0) {
			if x.What(g) != 0 || x.Program(g) != 0 || x.Next(g) != (api.Instr{}) || x.Count(g) != 0 {
				t.Errorf("goroutine %d: %d, %d, %v", g, x.What(g), x.Program(g), x.Next(g))
			}
		}
		if n, all := x.All([]api.Event{event(api.EvStart, 0)}); n != 0 || all {
			t.Errorf("All: %d, %v", n, all)
		}
	}
	if none.Do(event(api.EvStart, 0)) != api.ErrArg {
		t.Errorf("Do of none")
	}
	if n, all := none.All(nil); n != 0 || all {
		t.Errorf("All of none: %d, %v", n, all)
	}
}

// Promise 29.1: there must be a code, and as many processors and goroutines as may be; how many threads there are is all one.
func TestNew(t *testing.T) {
	c := code.Read([]uint64{3})
	for _, conf := range []api.Config{
		{}, {Procs: 0, Threads: 1, Gs: 1}, {Procs: 65, Threads: 65, Gs: 1}, {Procs: -1, Gs: 1}, {Procs: 1, Gs: 0}, {Procs: 1, Gs: -1}, {Procs: 1, Gs: 65537}, {Procs: math.MaxInt, Gs: math.MaxInt}, {Procs: math.MinInt, Gs: math.MinInt},
	} {
		if x, e := model.New(c, conf); x != nil || e != api.ErrArg {
			t.Errorf("New of %v: %v", conf, e)
		}
	}
	if x, e := model.New(nil, conf); x != nil || e != api.ErrArg {
		t.Errorf("New without a code: %v", e)
	}
	for _, conf := range []api.Config{{Procs: 1, Gs: 1}, {Procs: 64, Threads: -7, Gs: 65536}, {Procs: 5, Threads: 2, Gs: 3}} {
		x, e := model.New(c, conf)
		if e != api.OK || x.Count(api.GRunnable) != 1 || x.Count(api.GIdle) != conf.Gs-1 {
			t.Errorf("New of %v: %v", conf, e)
		}
	}
	if x, e := model.New(&code.Code{}, conf); e != api.OK || x.Next(0).Kind != api.InExit {
		t.Errorf("New of no programs: %v", e)
	}
}

// Promise 29.2: at the beginning goroutine 0 is runnable, with program 0, and all others are idle.
func TestBeginning(t *testing.T) {
	x := open(t, 9, 13, 26, 7, 3)
	is(t, x, 0, api.GRunnable, api.InSpawn, 1)
	for g := 1; g < conf.Gs; g++ {
		if x.What(g) != api.GIdle || x.Program(g) != 0 {
			t.Errorf("%d is %d, with %d", g, x.What(g), x.Program(g))
		}
	}
	for _, g := range numbers() {
		is(t, x, g, api.GIdle, api.InExit, 0)
		if x.Program(g) != 0 {
			t.Errorf("%d has %d", g, x.Program(g))
		}
	}
	for what, n := range map[int]int{api.GRunnable: 1, api.GIdle: 3, api.GRunning: 0, api.GDead: 0, -1: 0, 6: 0, math.MaxInt: 0} {
		if x.Count(what) != n {
			t.Errorf("%d are %d, want %d", x.Count(what), what, n)
		}
	}
}

// An event of no kind, and of a goroutine that there is not, may not be.
func TestNoSuchEvent(t *testing.T) {
	x := open(t, 3)
	for _, kind := range []int{math.MinInt, -1, 0, 12, math.MaxInt} {
		not(t, x, event(kind, 0), with(kind, 0, 1))
	}
	for kind := api.EvStart; kind <= api.EvExit; kind++ {
		for _, g := range numbers() {
			not(t, x, event(kind, g), with(kind, g, 0))
		}
	}
}

// Promise 29.1: who starts is runnable, by a thread and with a processor that no other one has; these are any numbers.
func TestStart(t *testing.T) {
	for _, n := range append(numbers(), 0, 1, 77) {
		x := open(t, 18, 18, 7, 6)
		not(t, x, event(api.EvStart, 1), with(api.EvStart, 0, 0), with(api.EvStart, 0, 1), with(api.EvStart, 0, -2))
		may(t, x, by(event(api.EvStart, 0), n, n))
		is(t, x, 0, api.GRunning, api.InSpawn, 0)
		not(t, x, by(event(api.EvStart, 0), 5, 5))
		may(t, x, by(with(api.EvSpawn, 0, 2), n, n))
		not(t, x, by(event(api.EvStart, 2), n, 5), by(event(api.EvStart, 2), 5, n), by(event(api.EvStart, 2), n, n))
		may(t, x, by(event(api.EvStart, 2), 5, 6))
		if x.Count(api.GRunning) != 2 {
			t.Errorf("%d run", x.Count(api.GRunning))
		}
	}
}

// Promise 29.1: a thread that is in a system call starts none; the processor may be another one's.
func TestStartByOneInACall(t *testing.T) {
	x := open(t, 2, 6, 3)
	may(t, x, by(event(api.EvStart, 0), 3, 4))
	may(t, x, by(with(api.EvSpawn, 0, 1), 3, 4))
	may(t, x, by(event(api.EvEnter, 0), 3, 4))
	not(t, x, by(event(api.EvStart, 1), 3, 9), by(event(api.EvStart, 1), 3, 4))
	may(t, x, by(event(api.EvStart, 1), 8, 4))
	not(t, x, by(event(api.EvReturn, 0), 3, 4), by(event(api.EvReturn, 0), 8, 9), by(event(api.EvReturn, 0), 4, 3))
	may(t, x, by(event(api.EvReturn, 0), 3, 9))
	is(t, x, 0, api.GRunning, api.InYield, 0)
	not(t, x, by(event(api.EvYield, 0), 3, 4))
	may(t, x, by(event(api.EvYield, 0), 3, 9))
}

// Promise 29.1: the Thread and the Proc of one that runs are its own, and Other is None, where none is told.
func TestWhose(t *testing.T) {
	for _, c := range []struct {
		word uint64
		kind int
		also int // what may be besides it, and besides EvPreempt
		what int
	}{{3, api.EvYield, 0, api.GRunnable}, {4, api.EvPark, 0, api.GWaiting}, {6, api.EvEnter, 0, api.GSyscall}, {0, api.EvExit, 0, api.GDead}, {2, api.EvRefused, api.EvSpawn, api.GRunning}, {9, api.EvPreempt, api.EvExit, api.GRunnable}} {
		x := open(t, c.word, 9)
		e := by(event(c.kind, 0), 30, 40)
		not(t, x, e, by(e, 0, 0))
		may(t, x, by(event(api.EvStart, 0), 30, 40))
		for _, n := range append(numbers(), 0, 1) {
			not(t, x, by(e, n, 40), by(e, 30, n), by(e, n, n), by(with(c.kind, 0, max(n, 0)), 30, 40))
		}
		for kind := api.EvStart; kind <= api.EvExit; kind++ {
			if kind != c.kind && kind != api.EvPreempt && kind != c.also {
				not(t, x, by(event(kind, 0), 30, 40), by(with(kind, 0, 1), 30, 40))
			}
		}
		may(t, x, e)
		if x.What(0) != c.what {
			t.Errorf("behind %v it is %d", e, x.What(0))
		}
		not(t, x, e)
	}
}

// Promise 29.1: who is preempted goes on where it stood.
func TestPreempt(t *testing.T) {
	x := open(t, 9, 5, 4, 3)
	for range 3 {
		may(t, x, event(api.EvStart, 0))
		is(t, x, 0, api.GRunning, api.InPark, 0)
		may(t, x, event(api.EvPreempt, 0))
		is(t, x, 0, api.GRunnable, api.InPark, 0)
	}
	may(t, x, by(event(api.EvStart, 0), 7, 8))
	may(t, x, by(event(api.EvPark, 0), 7, 8))
	is(t, x, 0, api.GWaiting, api.InYield, 0)
}

// Promise 29.1: who comes out without a processor is runnable, its thread free; its Proc is None, even if another one runs with that.
func TestQueue(t *testing.T) {
	x := open(t, 2, 6, 3)
	may(t, x, event(api.EvStart, 0))
	may(t, x, with(api.EvSpawn, 0, 1))
	may(t, x, event(api.EvEnter, 0))
	may(t, x, by(event(api.EvStart, 1), 1, api.None))
	not(t, x, event(api.EvQueue, 0), by(event(api.EvQueue, 0), 1, api.None), by(event(api.EvQueue, 1), 1, api.None), by(with(api.EvQueue, 0, 1), 0, api.None))
	not(t, x, by(event(api.EvReturn, 0), 0, api.None))
	may(t, x, by(event(api.EvQueue, 0), 0, api.None))
	is(t, x, 0, api.GRunnable, api.InYield, 0)
	not(t, x, by(event(api.EvQueue, 0), 0, api.None), by(event(api.EvStart, 0), 0, api.None), by(event(api.EvReturn, 0), 0, 5))
	may(t, x, by(event(api.EvStart, 0), 0, 5))
	may(t, x, by(with(api.EvSpawn, 1, 3), 1, api.None)) // it runs on
}

// Promise 29.1: Other of a spawn is another one that is idle or dead; it is runnable then, at the beginning of that program.
func TestSpawn(t *testing.T) {
	x := open(t, 10, 2, 10, 10, 7, 9, 3)
	may(t, x, event(api.EvStart, 0))
	not(t, x, event(api.EvSpawn, 0), with(api.EvSpawn, 0, 0))
	for _, g := range numbers() {
		not(t, x, with(api.EvSpawn, 0, g))
	}
	may(t, x, with(api.EvSpawn, 0, 3))
	is(t, x, 3, api.GRunnable, api.InYield, 0)
	is(t, x, 0, api.GRunning, api.InSpawn, 0)
	not(t, x, with(api.EvSpawn, 0, 3))
	may(t, x, by(event(api.EvStart, 3), 1, 1))
	not(t, x, with(api.EvSpawn, 0, 3))
	may(t, x, by(event(api.EvYield, 3), 1, 1))
	may(t, x, by(event(api.EvStart, 3), 1, 1))
	may(t, x, by(event(api.EvExit, 3), 1, 1))
	if x.Program(3) != 1 || x.What(3) != api.GDead {
		t.Errorf("3 is %d, with %d", x.What(3), x.Program(3))
	}
	may(t, x, with(api.EvSpawn, 0, 3))
	is(t, x, 3, api.GRunnable, api.InSpawn, 1)
	if x.Program(3) != 0 {
		t.Errorf("3 has %d", x.Program(3))
	}
	may(t, x, event(api.EvRefused, 0)) // though there are idle ones
	is(t, x, 0, api.GRunning, api.InSpawn, 1)
}

// Promise 29.1: who readies has an InReady ahead of its next instruction, of which the first is behind it then; the other one waits.
func TestReady(t *testing.T) {
	x := open(t, 10, 5, 9, 13, 17, 5, 3, 5, 7, 4, 4, 4)
	may(t, x, event(api.EvStart, 0))
	not(t, x, with(api.EvReady, 0, 1)) // the InReady is behind the next instruction
	may(t, x, with(api.EvSpawn, 0, 1))
	not(t, x, with(api.EvReady, 0, 1), with(api.EvReady, 0, 0), with(api.EvReady, 0, 2), event(api.EvReady, 0), with(api.EvReady, 0, conf.Gs))
	for n := range 3 {
		may(t, x, by(event(api.EvStart, 1), 1, 1))
		not(t, x, with(api.EvReady, 0, 1))
		may(t, x, by(event(api.EvPark, 1), 1, 1))
		not(t, x, by(with(api.EvReady, 0, 1), 1, 0), by(with(api.EvReady, 0, 1), 0, 1))
		may(t, x, with(api.EvReady, 0, 1))
		is(t, x, 0, api.GRunning, api.InYield, 0)
		if x.What(1) != api.GRunnable {
			t.Errorf("ready %d: 1 is %d", n, x.What(1))
		}
	}
	may(t, x, by(event(api.EvStart, 1), 1, 1))
	is(t, x, 1, api.GRunning, api.InExit, 0)
	x = open(t, 10, 5, 3, 5, 7, 4, 4)
	may(t, x, event(api.EvStart, 0))
	may(t, x, with(api.EvSpawn, 0, 1))
	may(t, x, by(event(api.EvStart, 1), 1, 1))
	may(t, x, by(event(api.EvPark, 1), 1, 1))
	may(t, x, with(api.EvReady, 0, 1))
	may(t, x, by(event(api.EvStart, 1), 1, 1))
	may(t, x, by(event(api.EvPark, 1), 1, 1))
	not(t, x, with(api.EvReady, 0, 1)) // the second one is behind InYield
	may(t, x, event(api.EvYield, 0))
	not(t, x, with(api.EvReady, 0, 1)) // it does not run
	may(t, x, event(api.EvStart, 0))
	may(t, x, with(api.EvReady, 0, 1))
}

// Promise 29.1: an InReady that readied nobody is behind it as soon as what comes behind that is.
func TestReadyPassed(t *testing.T) {
	x := open(t, 10, 5, 9, 4, 7, 4)
	may(t, x, event(api.EvStart, 0))
	may(t, x, with(api.EvSpawn, 0, 1))
	may(t, x, by(event(api.EvStart, 1), 1, 1))
	may(t, x, by(event(api.EvPark, 1), 1, 1))
	may(t, x, event(api.EvPark, 0))
	is(t, x, 0, api.GWaiting, api.InExit, 0)
}

// Promise 29.1: behind all there is InExit; one within a program ends it as well.
func TestExit(t *testing.T) {
	x := open(t, 9, 0, 3)
	may(t, x, event(api.EvStart, 0))
	is(t, x, 0, api.GRunning, api.InExit, 0)
	not(t, x, event(api.EvYield, 0))
	may(t, x, event(api.EvExit, 0))
	for kind := api.EvStart; kind <= api.EvExit; kind++ {
		not(t, x, event(kind, 0), with(kind, 0, 1), by(event(kind, 0), 0, api.None))
	}
	for _, words := range [][]uint64{nil, {9, 9}, {5}} {
		x = open(t, words...)
		may(t, x, event(api.EvStart, 0))
		may(t, x, event(api.EvExit, 0))
		is(t, x, 0, api.GDead, api.InExit, 0)
	}
}

// Promise 29.1: All does events as long as they may be; those ahead of one that may not be are done.
func TestAll(t *testing.T) {
	list := []api.Event{event(api.EvStart, 0), event(api.EvYield, 0), event(api.EvStart, 0), event(api.EvExit, 0)}
	for n := range list {
		x := open(t, 3)
		wrong := append(append([]api.Event{}, list[:n]...), event(api.EvPark, 0))
		wrong = append(wrong, list[n:]...)
		if many, all := x.All(wrong); many != n || all {
			t.Errorf("All of %v: %d, %v", wrong, many, all)
		}
		if many, all := x.All(list[n:]); many != len(list)-n || !all || x.What(0) != api.GDead {
			t.Errorf("behind %d: %d, %v", n, many, all)
		}
		if many, all := x.All(nil); many != 0 || !all {
			t.Errorf("All of none: %d, %v", many, all)
		}
	}
	x := open(t, 3)
	if many, all := x.All([]api.Event{event(api.EvStart, 0), event(api.EvExit, 0)}); many != 1 || all { // the chapter's example
		t.Errorf("EvExit ahead of EvYield: %d, %v", many, all)
	}
}

// What is handed in is neither changed nor kept.
func TestArguments(t *testing.T) {
	c := code.Read([]uint64{3, 4})
	x, _ := model.New(c, conf)
	*c = *code.Read([]uint64{6})
	list := []api.Event{event(api.EvStart, 0), event(api.EvYield, 0)}
	if n, all := x.All(list); n != 2 || !all || list[0] != event(api.EvStart, 0) || list[1] != event(api.EvYield, 0) {
		t.Errorf("All: %d, %v; %v", n, all, list)
	}
}
