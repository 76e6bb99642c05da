package note_test

import (
	"math"
	"slices"
	"testing"

	"turnspit/api"
	"turnspit/cell"
	"turnspit/layout"
	"turnspit/note"
)

const threads = 4

// lay is a layout of a few threads, and its memory.
func lay(t *testing.T) (*layout.Layout, *cell.Mem) {
	t.Helper()
	l, e := layout.Of(api.Config{Procs: 2, Threads: threads, Gs: 2})
	if e != api.OK {
		t.Fatalf("layout: %v", e)
	}
	m, e := cell.New(l.Len())
	if e != api.OK {
		t.Fatalf("memory: %v", e)
	}
	return l, m
}

// machine is what both machines have.
type machine interface {
	Step(m *cell.Mem) bool
	Done() bool
}

// step does a step that is to do just this access, and to be done, or not.
func step(t *testing.T, m *cell.Mem, x machine, want api.Access, done bool) {
	t.Helper()
	clock := m.Clock()
	if got := x.Step(m); got != done || x.Done() != done {
		t.Errorf("step: %v, Done %v, want %v", got, x.Done(), done)
	}
	if m.Clock() != clock+1 || m.Last() != want {
		t.Errorf("%d accesses, the last one %v, want %v", m.Clock()-clock, m.Last(), want)
	}
}

// rests does steps that are to do nothing, and to answer that.
func rests(t *testing.T, m *cell.Mem, x machine, done bool) {
	t.Helper()
	clock := m.Clock()
	for range 10 {
		if x.Step(m) != done || x.Done() != done || m.Clock() != clock {
			t.Errorf("a step that does nothing: Done %v, want %v; clock %d, want %d", x.Done(), done, m.Clock(), clock)
		}
	}
}

func load(who, at int, w uint64) api.Access {
	return api.Access{Kind: api.AcLoad, Who: who, At: at, Old: w, Done: true}
}

func store(who, at int, old, w uint64) api.Access {
	return api.Access{Kind: api.AcStore, Who: who, At: at, Old: old, New: w, Done: true}
}

// notes holds all threads' notes against what they should be, and all other words against 0.
func notes(t *testing.T, l *layout.Layout, m *cell.Mem, want ...uint64) {
	t.Helper()
	words := make([]uint64, l.Len())
	for th, w := range want {
		words[l.Thread(th, layout.Note)] = w
		if note.Awake(l, m, th) != (w != 0) {
			t.Errorf("Awake(%d): %v, where its note is %d", th, w == 0, w)
		}
	}
	if !slices.Equal(m.Words(), words) || m.Bad() != 0 {
		t.Errorf("words: %v, want %v; bad %d", m.Words(), words, m.Bad())
	}
}

// Promise 9.1: a sleep behind a wake: two steps, by the thread; a wake: one step, by whom it belongs to.
func TestWakeAhead(t *testing.T) {
	for _, th := range []int{0, 1, threads - 1} {
		for _, who := range []int{0, threads - 1, threads, 1000, -1} {
			l, m := lay(t)
			at := l.Thread(th, layout.Note)
			w := note.NewWake(l, th, who)
			if w.Done() || note.Awake(l, m, th) {
				t.Errorf("a wake ahead of its step: Done %v", w.Done())
			}
			step(t, m, w, store(who, at, 0, 1), true)
			rests(t, m, w, true)
			want := make([]uint64, threads)
			want[th] = 1
			notes(t, l, m, want...)
			x := note.New(l, th)
			if x.Done() || x.Asleep(m) {
				t.Errorf("a sleep ahead of its step: Done %v, Asleep %v", x.Done(), x.Asleep(m))
			}
			step(t, m, x, load(th, at, 1), false)
			if x.Asleep(m) {
				t.Errorf("asleep, behind a wake")
			}
			step(t, m, x, store(th, at, 1, 0), true)
			rests(t, m, x, true)
			notes(t, l, m, make([]uint64, threads)...)
		}
	}
}

// Promise 9.1: a sleep without a wake: one step, and it is asleep; a wake behind it ends it by two more.
func TestWakeBehind(t *testing.T) {
	for _, th := range []int{0, 2, threads - 1} {
		l, m := lay(t)
		at := l.Thread(th, layout.Note)
		x := note.New(l, th)
		step(t, m, x, load(th, at, 0), false)
		for range 5 {
			if !x.Asleep(m) || note.Awake(l, m, th) {
				t.Errorf("Asleep %v, Awake %v", x.Asleep(m), note.Awake(l, m, th))
			}
			rests(t, m, x, false)
		}
		step(t, m, note.NewWake(l, th, 7), store(7, at, 0, 1), true)
		if x.Asleep(m) || x.Done() || !note.Awake(l, m, th) {
			t.Errorf("woken: Asleep %v, Awake %v", x.Asleep(m), note.Awake(l, m, th))
		}
		step(t, m, x, load(th, at, 1), false)
		if x.Asleep(m) || !note.Awake(l, m, th) {
			t.Errorf("awake: Asleep %v, Awake %v", x.Asleep(m), note.Awake(l, m, th))
		}
		step(t, m, x, store(th, at, 1, 0), true)
		if x.Asleep(m) || note.Awake(l, m, th) {
			t.Errorf("done: Asleep %v, Awake %v", x.Asleep(m), note.Awake(l, m, th))
		}
		rests(t, m, x, true)
	}
}

// Promise 9.1: another one's wake wakes nobody else.
func TestWakeOfAnother(t *testing.T) {
	for th := range threads {
		l, m := lay(t)
		x := note.New(l, th)
		x.Step(m)
		want := make([]uint64, threads)
		for other := range threads {
			if other != th {
				step(t, m, note.NewWake(l, other, th), store(th, l.Thread(other, layout.Note), 0, 1), true)
				want[other] = 1
			}
		}
		if !x.Asleep(m) {
			t.Errorf("%d is woken by another one's wake", th)
		}
		rests(t, m, x, false)
		notes(t, l, m, want...)
	}
}

// Promise 9.1: two wakes are one: the next sleep sleeps.
func TestTwoWakes(t *testing.T) {
	l, m := lay(t)
	at := l.Thread(1, layout.Note)
	step(t, m, note.NewWake(l, 1, 0), store(0, at, 0, 1), true)
	step(t, m, note.NewWake(l, 1, 2), store(2, at, 1, 1), true)
	x := note.New(l, 1)
	step(t, m, x, load(1, at, 1), false)
	step(t, m, x, store(1, at, 1, 0), true)
	x = note.New(l, 1)
	step(t, m, x, load(1, at, 0), false)
	if !x.Asleep(m) {
		t.Errorf("two wakes ended two sleeps")
	}
	rests(t, m, x, false)
}

// Promise 9.1: a wake between the two steps of a sleep is taken away with the one ahead.
func TestWakeBetween(t *testing.T) {
	l, m := lay(t)
	at := l.Thread(1, layout.Note)
	x := note.New(l, 1)
	note.NewWake(l, 1, 0).Step(m)
	step(t, m, x, load(1, at, 1), false)
	step(t, m, note.NewWake(l, 1, 0), store(0, at, 1, 1), true)
	step(t, m, x, store(1, at, 1, 0), true)
	notes(t, l, m, 0, 0, 0, 0)
}

// Promise 9.1: whatever word but 0 stands in a note wakes.
func TestAnyWordWakes(t *testing.T) {
	for _, w := range []uint64{1, 2, 1 << 32, math.MaxUint64} {
		l, m := lay(t)
		at := l.Thread(3, layout.Note)
		x := note.New(l, 3)
		x.Step(m)
		m.Store(9, at, w)
		if !note.Awake(l, m, 3) || x.Asleep(m) {
			t.Errorf("not awake by the word %d", w)
		}
		step(t, m, x, load(3, at, w), false)
		step(t, m, x, store(3, at, w, 0), true)
	}
}

// Promise 9.1: of a thread below 0, or beyond, nobody wakes, and no word is changed.
func TestNoSuchThread(t *testing.T) {
	for _, th := range []int{math.MinInt, -2, -1, threads, threads + 1, math.MaxInt} {
		l, m := lay(t)
		x := note.New(l, th)
		w := note.NewWake(l, th, 1)
		if x.Step(m) || !w.Step(m) || !w.Done() {
			t.Errorf("thread %d: Done %v, %v", th, x.Done(), w.Done())
		}
		for range 20 {
			if x.Step(m) || x.Done() {
				t.Errorf("thread %d is woken", th)
			}
		}
		if m.Bad() < 2 || m.Bad() != m.Clock() || note.Awake(l, m, th) {
			t.Errorf("thread %d: bad %d of %d, Awake %v", th, m.Bad(), m.Clock(), note.Awake(l, m, th))
		}
		if slices.ContainsFunc(m.Words(), func(w uint64) bool { return w != 0 }) {
			t.Errorf("thread %d: words were changed", th)
		}
	}
}

// Promise 9.1: of a thread that there is not Awake is false, whatever stands in memory, and no access.
func TestAwakeBeyond(t *testing.T) {
	l, _ := lay(t)
	full := make([]uint64, l.Len()+10)
	for i := range full {
		full[i] = 5
	}
	m, _ := cell.Of(full)
	for th := range threads {
		if !note.Awake(l, m, th) {
			t.Errorf("Awake(%d): false", th)
		}
	}
	for _, th := range []int{math.MinInt, -1, threads, threads + 1, math.MaxInt} {
		if note.Awake(l, m, th) {
			t.Errorf("Awake(%d): true", th)
		}
	}
	if m.Clock() != 0 {
		t.Errorf("Awake did %d accesses", m.Clock())
	}
}

// Promise 9.1: a thread is awake by its Note alone.
func TestAwakeLooksAtNotes(t *testing.T) {
	l, m := lay(t)
	for at := range l.Len() {
		if area, _, field := l.Which(at); area != layout.ThreadsArea || field != layout.Note {
			m.Store(0, at, 9)
		}
	}
	for th := range threads {
		if note.Awake(l, m, th) {
			t.Errorf("Awake(%d), by another word", th)
		}
	}
}

// R1 and promise 9.1: no machine is done, not asleep, and its steps do nothing.
func TestNoMachine(t *testing.T) {
	_, m := lay(t)
	var x *note.Sleep
	var w *note.Wake
	rests(t, m, x, true)
	rests(t, m, w, true)
	if x.Asleep(m) {
		t.Errorf("no sleep is asleep")
	}
	rests(t, m, &note.Sleep{}, true)
	rests(t, m, &note.Wake{}, true)
}

// Machines without a memory, or without a layout, do not panic; nobody is awake there.
func TestNoMemoryNoLayout(t *testing.T) {
	l, m := lay(t)
	x := note.New(l, 0)
	x.Step(nil)
	x.Asleep(nil)
	note.NewWake(l, 0, 1).Step(nil)
	y := note.New(nil, 0)
	for range 3 {
		y.Step(m)
		y.Asleep(m)
	}
	note.NewWake(nil, 0, 1).Step(m)
	if note.Awake(l, nil, 0) || note.Awake(nil, m, 0) || note.Awake(nil, nil, 0) {
		t.Errorf("awake, without a memory, or a layout")
	}
	if slices.ContainsFunc(m.Words(), func(w uint64) bool { return w != 0 }) {
		t.Errorf("words of a memory of another layout were changed")
	}
}

// Promise 9.2: wherever among the steps of a sleep the wake comes, the sleep ends; and without a wake it does not.
func TestNoWakeIsLost(t *testing.T) {
	for ahead := range 6 {
		l, m := lay(t)
		x := note.New(l, 2)
		for range ahead {
			if x.Step(m) {
				t.Errorf("the sleep ended without a wake")
			}
		}
		note.NewWake(l, 2, 3).Step(m)
		for n := 0; !x.Step(m); n++ {
			if n > 2 {
				t.Fatalf("a wake behind %d steps is lost", ahead)
			}
		}
		notes(t, l, m, 0, 0, 0, 0)
	}
	l, m := lay(t)
	x := note.New(l, 2)
	for range 1000 {
		if x.Step(m) || x.Done() {
			t.Fatalf("the sleep ended without a wake")
		}
	}
	if m.Clock() != 1 {
		t.Errorf("a sleep without a wake did %d accesses", m.Clock())
	}
}

// Promise 9.2: sleepers and wakers, however they go on between one another: each sleep that ends takes one wake or more.
func TestSleepsAndWakes(t *testing.T) {
	l, m := lay(t)
	roll := uint64(3)
	var sleeps [threads]*note.Sleep
	var woken [threads]bool
	ended := 0
	for th := range sleeps {
		sleeps[th] = note.New(l, th)
	}
	for range 5000 {
		roll = roll*6364136223846793005 + 1442695040888963407
		th := int(roll >> 33 % threads)
		if roll>>40%8 == 0 {
			note.NewWake(l, th, threads).Step(m)
			woken[th] = true
			continue
		}
		if sleeps[th].Step(m) {
			if !woken[th] {
				t.Fatalf("the sleep of %d ended without a wake", th)
			}
			woken[th], sleeps[th] = false, note.New(l, th)
			ended++
		}
		if woken[th] != note.Awake(l, m, th) || woken[th] && sleeps[th].Asleep(m) {
			t.Fatalf("thread %d: Awake %v, Asleep %v", th, note.Awake(l, m, th), sleeps[th].Asleep(m))
		}
	}
	if ended < 300 {
		t.Errorf("%d sleeps ended", ended)
	}
}
