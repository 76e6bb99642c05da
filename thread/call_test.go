package thread_test

import (
	"slices"
	"testing"

	"turnspit/acts"
	"turnspit/api"
	"turnspit/globq"
	"turnspit/idlep"
	"turnspit/layout"
	"turnspit/rest"
	"turnspit/sysc"
	"turnspit/thread"
)

// goesIn goes in, as layer 24 does: the event comes at the first step; the thread has the processor until the last one, and is in the call then.
func (y *trial) goesIn() (p int) {
	y.Helper()
	p = y.want.p
	x, told := sysc.New(y.l, y.t, p, y.want.g), false
	y.same(x, func(done bool) api.Event {
		var e api.Event
		if !told {
			e, told = y.event(api.EvEnter, api.None), true
		}
		if done {
			y.want.does, y.want.p, y.want.blocked = thread.InCall, api.None, true
		}
		return e
	})
	return p
}

// calling is a thread in a call, with the processor 0, and the goroutine 0, whose program goes on with some words.
func calling(t *testing.T, words ...uint64) *trial {
	t.Helper()
	return callingSo(t, false, words...)
}

// callingSo is one whose goroutine inherited, or not.
func callingSo(t *testing.T, inherits bool, words ...uint64) *trial {
	t.Helper()
	y := runningSo(t, inherits, append([]uint64{6}, words...)...)
	y.obeys(thread.GoesIn)
	y.goesIn()
	return y
}

// returns lets the call return: from here on it comes out. A second one is against the rule.
func (y *trial) returns() {
	y.Helper()
	e, told := y.x.Event()
	if got := y.x.Return(); got != api.OK {
		y.Errorf("Return: %v", got)
	}
	y.want.does, y.want.blocked = thread.ComesOut, false
	y.tells(e)
	if told {
		y.Errorf("an event: %v", e)
	}
}

// comesOut comes out, as layer 24 does, with what it does then.
func (y *trial) comesOut(does int) *sysc.Out {
	y.Helper()
	x, told := sysc.NewOut(y.l, y.t, 0, 0), false
	y.same(x, func(done bool) api.Event {
		var e api.Event
		y.want.p, y.want.holds = x.P(), x.Holds()
		if x.Came() && !told {
			told = true
			e = y.event(api.EvQueue, api.None)
			if x.Runs() {
				e.Kind = api.EvReturn
			} else {
				y.want.g = api.None
			}
		}
		if done {
			y.want.does = does
		}
		return e
	})
	return x
}

// Promises 27.1 and 27.2: InSyscall: it goes in, and is in the call, without the processor, but with the goroutine; its steps do nothing until the call returns; then it comes out with the processor, which nobody took, and the goroutine runs on.
func TestCall(t *testing.T) {
	for _, late := range []bool{false, true} {
		y := running(t, 6, 9)
		y.obeys(thread.GoesIn)
		before := y.m.Words()
		y.goesIn()
		acts.Changed(t, y.m, before, map[int]uint64{y.g(0): api.GSyscall, y.l.Proc(0, layout.Calls): 1, y.l.Proc(0, layout.Status): api.PSyscall})
		if late {
			y.stays()
		}
		y.returns()
		y.comesOut(thread.Runs)
		acts.Changed(t, y.m, before, map[int]uint64{y.l.Proc(0, layout.Calls): 2})
		if y.want.g != 0 || y.want.p != 0 {
			t.Errorf("told %v", y.want)
		}
		y.obeys(thread.Runs)
		y.stands(0, place{0, 1, 1, 1})
		y.noBad()
	}
}

// Promise 27.1: a Return where it is in no call is against the rule, whatever it does; in a call there is one, and no other one until the next call.
func TestReturn(t *testing.T) {
	y := running(t, 6, 6, 2, 5, 3, 6)
	did := map[int]bool{}
	for range 200 {
		does := y.x.Does()
		did[does] = true
		want := api.ErrRule
		if does == thread.InCall {
			want = api.OK
			for range 3 {
				y.x.Step(y.m)
			}
		}
		if e := y.x.Return(); e != want {
			t.Errorf("it does %d: Return %v, want %v", does, e, want)
		}
		if e := y.x.Return(); e != api.ErrRule {
			t.Errorf("it does %d: a second Return %v", does, e)
		}
		y.x.Step(y.m)
	}
	for _, does := range []int{thread.Finds, thread.Starts, thread.Runs, thread.Gives, thread.Spawns, thread.Readies, thread.GoesIn, thread.InCall, thread.ComesOut, thread.Ends} {
		if !did[does] {
			t.Errorf("it never did %d", does)
		}
	}
}

// Promises 27.1 and 27.2: Preempt that comes while the thread is in a call is heeded once the goroutine runs on.
func TestPreemptedInCall(t *testing.T) {
	y := calling(t, 9)
	y.store(y.l.Proc(0, layout.Preempt), 1)
	y.returns()
	y.comesOut(thread.Runs)
	y.preempted()
}

// Promises 27.1 and 27.2: a call whose processor was taken, with another one that is idle: the goroutine runs on with that, without a turn of its own; the event tells that one.
func TestCallAnother(t *testing.T) {
	y := calling(t, 9)
	y.store(y.l.Proc(0, layout.Status), api.PIdle)
	acts.All(t, y.m, idlep.New(y.l, 99, 2))
	y.returns()
	turns := y.is(y.l.Proc(2, layout.Turns))
	if x := y.comesOut(thread.Runs); !x.Runs() || y.want.p != 2 || y.want.g != 0 {
		t.Errorf("told %v", y.want)
	}
	y.obeys(thread.Runs)
	if w := y.is(y.l.Proc(2, layout.Turns)); w != turns {
		t.Errorf("Turns: %d", w)
	}
	y.noBad()
}

// Promises 27.1 and 27.2: a call whose processor was taken, and one that is idle only when the lock is had: the goroutine does not run, is in the hand, and starts with that processor, with a turn of its own, though it inherited ahead of the call.
func TestCallStarts(t *testing.T) {
	for _, late := range []bool{false, true} { // it comes ahead of the store of the Status, or behind it
		y := callingSo(t, late, 9)
		y.store(y.l.Proc(0, layout.Status), api.PRunning)
		y.returns()
		y.plain(acts.Swap(y.l.Proc(0, layout.Status), api.PSyscall, api.PRunning), acts.Load(y.word(layout.IdleP)))
		if !late {
			acts.All(t, y.m, idlep.New(y.l, 99, 1))
		}
		queue := y.event(api.EvQueue, api.None)
		y.want.g, y.want.holds = api.None, []int{0}
		y.goes(acts.Store(y.g(0), api.GRunnable), queue)
		if late {
			acts.All(t, y.m, idlep.New(y.l, 99, 1))
		}
		y.plain(acts.Acquire(y.l, 0, 0)...)
		y.plain(acts.Load(y.word(layout.IdleP)), acts.Load(y.l.Proc(1, layout.PLink)), acts.Load(y.word(layout.Mask)), acts.Store(y.word(layout.Mask), 0))
		y.want.p = 1
		y.plain(acts.Store(y.word(layout.IdleP), 0), acts.Add(y.word(layout.IdlePs), less))
		y.plain(acts.Release(y.l, 0)...)
		y.want.does = thread.Starts
		y.plain(acts.Store(y.proc(layout.Status), api.PRunning))
		y.store(y.proc(layout.Preempt), 1)
		turns := y.is(y.proc(layout.Turns))
		y.starts(0, false)
		if y.is(y.proc(layout.Turns)) != turns+1 || y.is(y.proc(layout.Preempt)) != 0 {
			t.Errorf("Turns %d, Preempt %d", y.is(y.proc(layout.Turns)), y.is(y.proc(layout.Preempt)))
		}
		y.obeys(thread.Runs)
		y.noBad()
	}
}

// Promises 27.1 and 27.2: a call whose processor was taken, and no other one is idle: the goroutine lies behind the queue, and the thread rests, without a processor, until it is given one: then it finds one with that.
func TestCallNone(t *testing.T) {
	for _, spins := range []bool{false, true} {
		y := calling(t, 9)
		y.store(y.l.Proc(0, layout.Status), api.PIdle)
		acts.All(t, y.m, globq.New(y.l, 99, []int{7}))
		y.returns()
		if x := y.comesOut(thread.Rests); x.Runs() || y.want.p != api.None || y.want.g != api.None || y.want.holds != nil {
			t.Errorf("told %v", y.want)
		}
		if list, _ := globq.List(y.l, y.m); !slices.Equal(list, []int{7, 0}) {
			t.Errorf("the queue: %v", list)
		}
		y.sleeps()
		w := uint64(3)
		if spins {
			w += round
		}
		y.wakesUp(w, spins)
		if spins {
			y.finds(nil, thread.CountsOut)
		} else {
			y.finds(nil, thread.Starts)
		}
		y.noBad()
	}
}

// sleeps rests, where nobody is needed, until it is asleep.
func (y *trial) sleeps() {
	y.Helper()
	y.plain(acts.Acquire(y.l, 0, y.t)...)
	y.plain(acts.Load(y.word(layout.Needs)), acts.Load(y.word(layout.IdleM)), acts.Store(y.l.Thread(y.t, layout.MLink), y.is(y.word(layout.IdleM))))
	y.plain(acts.Store(y.word(layout.IdleM), uint64(y.t)+1), acts.Add(y.word(layout.IdleMs), 1))
	y.plain(acts.Release(y.l, 0)...)
	y.want.blocked = true
	y.plain(acts.Load(y.l.Thread(y.t, layout.Note)))
	y.stays()
}

// wakesUp wakes it, given a processor as a word, which it takes: then it finds one.
func (y *trial) wakesUp(w uint64, spins bool) {
	y.Helper()
	note, given := y.l.Thread(y.t, layout.Note), y.l.Thread(y.t, layout.Given)
	y.store(given, w)
	y.store(note, 1)
	y.want.blocked = false
	y.plain(acts.Load(note), acts.Store(note, 0), acts.Load(given))
	y.want.p, y.want.spins = int(w%round)-1, spins
	y.plain(acts.Store(given, 0))
	y.want.does = thread.Finds
	y.plain(acts.Store(y.proc(layout.Status), api.PRunning))
}

// Promises 27.1 and 27.2: one that rests behind a call while somebody is needed, and one is idle by then, spins, and has that.
func TestCallRestNeeded(t *testing.T) {
	y := calling(t, 9)
	y.store(y.l.Proc(0, layout.Status), api.PIdle)
	y.returns()
	y.comesOut(thread.Rests)
	y.store(y.word(layout.Needs), 1)
	acts.All(t, y.m, idlep.New(y.l, 99, 1))
	x := rest.NewRest(y.l, y.t)
	y.same(x, func(done bool) api.Event {
		y.want.p, y.want.spins = x.P(), x.Spins()
		if done {
			y.want.does = thread.Finds
		}
		return api.Event{}
	})
	if y.want.p != 1 || !y.want.spins {
		t.Errorf("told %v", y.want)
	}
	y.finds(nil, thread.CountsOut)
	y.noBad()
}

// Promise 27.1: two calls, one behind the other, with what was had behind the first one: the second one goes in with that.
func TestCallTwice(t *testing.T) {
	y := calling(t, 6, 9)
	y.store(y.l.Proc(0, layout.Status), api.PIdle)
	acts.All(t, y.m, idlep.New(y.l, 99, 2))
	y.returns()
	y.comesOut(thread.Runs)
	y.obeys(thread.GoesIn)
	if p := y.goesIn(); p != 2 || y.is(y.l.Proc(2, layout.Status)) != api.PSyscall {
		t.Errorf("it went in with %d", p)
	}
	y.stays()
	y.want.does, y.want.blocked = thread.ComesOut, false
	if e := y.x.Return(); e != api.OK {
		t.Errorf("Return: %v", e)
	}
	x := sysc.NewOut(y.l, y.t, 2, 0)
	y.same(x, func(done bool) api.Event {
		y.want.p = x.P()
		if !done {
			return api.Event{}
		}
		y.want.does = thread.Runs
		return y.event(api.EvReturn, api.None)
	})
	y.noBad()
}
