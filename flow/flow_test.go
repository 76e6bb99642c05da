package flow_test

import (
	"math"
	"slices"
	"testing"

	"turnspit/api"
	"turnspit/cell"
	"turnspit/flow"
)

// mem is a memory of words, which may be.
func mem(t *testing.T, words ...uint64) *cell.Mem {
	t.Helper()
	m, e := cell.Of(words)
	if e != api.OK || m == nil {
		t.Fatalf("Of: %v", e)
	}
	return m
}

// machine is what flows and chains have in common.
type machine interface {
	Step(m *cell.Mem) bool
	Done() bool
	Asleep(m *cell.Mem) bool
}

// step does a step that is to do just this access, and to be done, or not.
func step(t *testing.T, m *cell.Mem, x machine, want api.Access, done bool) {
	t.Helper()
	clock := m.Clock()
	if got := x.Step(m); got != done || x.Done() != done {
		t.Errorf("step: %v, Done %v, want %v", got, x.Done(), done)
	}
	if m.Clock() != clock+1 || m.Last() != want {
		t.Errorf("%d accesses, the last one %v, want %v", m.Clock()-clock, m.Last(), want)
	}
}

// rests does steps that are to do nothing, and to answer that.
func rests(t *testing.T, m *cell.Mem, x machine, done bool) {
	t.Helper()
	words, clock, last := m.Words(), m.Clock(), m.Last()
	for range 5 {
		if x.Step(m) != done || x.Done() != done {
			t.Errorf("a step that does nothing: done is not %v", done)
		}
	}
	if m.Clock() != clock || m.Last() != last || !slices.Equal(m.Words(), words) {
		t.Errorf("a step that does nothing did %v", m.Last())
	}
}

func load(who, at int, w uint64) api.Access {
	return api.Access{Kind: api.AcLoad, Who: who, At: at, Old: w, Done: true}
}

func store(who, at int, old, w uint64) api.Access {
	return api.Access{Kind: api.AcStore, Who: who, At: at, Old: old, New: w, Done: true}
}

// Promise 7.1: a flow of which nothing is to come is done, and its steps do nothing.
func TestNothingToCome(t *testing.T) {
	m := mem(t, 0, 5)
	bare, of := &flow.Flow{}, &flow.Flow{}
	of.Of(3)
	for _, f := range []*flow.Flow{bare, of} {
		if !f.Done() || f.Asleep(m) {
			t.Errorf("Done %v, Asleep %v", f.Done(), f.Asleep(m))
		}
		rests(t, m, f, true)
	}
}

// Promise 7.1: a flow belongs to whom Of says, to 0 without it; its accesses are by that one.
func TestWho(t *testing.T) {
	f := &flow.Flow{}
	if f.Who() != 0 {
		t.Errorf("Who, without Of: %d", f.Who())
	}
	m := mem(t, 5)
	f.Load(0, func(uint64) {})
	step(t, m, f, load(0, 0, 5), true)
	for _, who := range []int{0, 1, 7, 255, -1, math.MinInt, math.MaxInt} {
		f := &flow.Flow{}
		f.Of(who)
		if f.Who() != who {
			t.Errorf("Who: %d, want %d", f.Who(), who)
		}
		f.Load(0, func(uint64) {})
		step(t, m, f, load(who, 0, 5), true)
		if f.Who() != who {
			t.Errorf("Who, behind a step: %d, want %d", f.Who(), who)
		}
	}
}

// Promise 7.1: each kind of access, done and not, where there is a word and where there is none: what it does, and what follows is told.
func TestAccesses(t *testing.T) {
	const none = math.MaxUint64 - 7 // nothing was told
	told := func(got *uint64) func(uint64) { return func(w uint64) { *got = w } }
	toldIs := func(got *uint64) func(bool) {
		return func(is bool) {
			*got = 0
			if is {
				*got = 1
			}
		}
	}
	toldNothing := func(got *uint64) func() { return func() { *got = 0 } }
	cases := []struct {
		name   string
		come   func(f *flow.Flow, got *uint64)
		last   api.Access
		answer uint64
		bad    int
	}{
		{"load", func(f *flow.Flow, got *uint64) { f.Load(1, told(got)) }, load(4, 1, 6), 6, 0},
		{"load of 0", func(f *flow.Flow, got *uint64) { f.Load(2, told(got)) }, load(4, 2, 0), 0, 0},
		{"load beyond", func(f *flow.Flow, got *uint64) { f.Load(4, told(got)) }, api.Access{Kind: api.AcLoad, Who: 4, At: 4}, 0, 1},
		{"store", func(f *flow.Flow, got *uint64) { f.Store(1, 1<<63, toldNothing(got)) }, store(4, 1, 6, 1<<63), 0, 0},
		{"store below", func(f *flow.Flow, got *uint64) { f.Store(-1, 9, toldNothing(got)) }, api.Access{Kind: api.AcStore, Who: 4, At: -1, New: 9}, 0, 1},
		{"swap", func(f *flow.Flow, got *uint64) { f.Swap(1, 6, 9, toldIs(got)) }, api.Access{Kind: api.AcSwap, Who: 4, At: 1, Old: 6, New: 9, Done: true}, 1, 0},
		{"swap for the same", func(f *flow.Flow, got *uint64) { f.Swap(1, 6, 6, toldIs(got)) }, api.Access{Kind: api.AcSwap, Who: 4, At: 1, Old: 6, New: 6, Done: true}, 1, 0},
		{"swap, not done", func(f *flow.Flow, got *uint64) { f.Swap(1, 9, 6, toldIs(got)) }, api.Access{Kind: api.AcSwap, Who: 4, At: 1, Old: 6, New: 6}, 0, 0},
		{"swap beyond", func(f *flow.Flow, got *uint64) { f.Swap(4, 0, 9, toldIs(got)) }, api.Access{Kind: api.AcSwap, Who: 4, At: 4, New: 9}, 0, 1},
		{"add", func(f *flow.Flow, got *uint64) { f.Add(1, 3, told(got)) }, api.Access{Kind: api.AcAdd, Who: 4, At: 1, Old: 6, New: 9, Done: true}, 9, 0},
		{"add, round", func(f *flow.Flow, got *uint64) { f.Add(3, 2, told(got)) }, api.Access{Kind: api.AcAdd, Who: 4, At: 3, Old: 1<<32 - 1, New: 1, Done: true}, 1, 0},
		{"add, round to 0", func(f *flow.Flow, got *uint64) { f.Add(1, 1<<32-6, told(got)) }, api.Access{Kind: api.AcAdd, Who: 4, At: 1, Old: 6, Done: true}, 0, 0},
		{"add below", func(f *flow.Flow, got *uint64) { f.Add(math.MinInt, 3, told(got)) }, api.Access{Kind: api.AcAdd, Who: 4, At: math.MinInt, New: 3}, 0, 1},
		{"sleep", func(f *flow.Flow, got *uint64) { f.Sleep(1, told(got)) }, load(4, 1, 6), 6, 0},
	}
	for _, x := range cases {
		t.Run(x.name, func(t *testing.T) {
			m, got := mem(t, 5, 6, 0, 1<<32-1), uint64(none)
			f := &flow.Flow{}
			f.Of(4)
			x.come(f, &got)
			if f.Done() || f.Asleep(m) || m.Clock() != 0 || got != none {
				t.Errorf("ahead of the step: Done %v, clock %d, told %d", f.Done(), m.Clock(), got)
			}
			step(t, m, f, x.last, true)
			if got != x.answer || m.Bad() != x.bad {
				t.Errorf("told %d, want %d; bad %d, want %d", got, x.answer, m.Bad(), x.bad)
			}
			got = none
			rests(t, m, f, true)
			if got != none {
				t.Errorf("what follows followed once more")
			}
		})
	}
}

// Promise 7.1: what follows makes another access come, each a step of its own, and the last one ends it.
func TestFollows(t *testing.T) {
	m, f := mem(t, 5, 0, 7), &flow.Flow{}
	f.Of(2)
	var told []uint64
	f.Load(0, func(w uint64) {
		told = append(told, w)
		f.Store(1, w+1, func() {
			told = append(told, 100)
			f.Swap(2, 7, 8, func(is bool) {
				if is {
					told = append(told, 200)
				}
				f.Add(2, 1, func(w uint64) { told = append(told, w) })
			})
		})
	})
	step(t, m, f, load(2, 0, 5), false)
	step(t, m, f, store(2, 1, 0, 6), false)
	if !slices.Equal(told, []uint64{5, 100}) {
		t.Errorf("told %v behind two steps", told)
	}
	step(t, m, f, api.Access{Kind: api.AcSwap, Who: 2, At: 2, Old: 7, New: 8, Done: true}, false)
	step(t, m, f, api.Access{Kind: api.AcAdd, Who: 2, At: 2, Old: 8, New: 9, Done: true}, true)
	rests(t, m, f, true)
	if !slices.Equal(told, []uint64{5, 100, 200, 9}) || !slices.Equal(m.Words(), []uint64{5, 6, 9}) {
		t.Errorf("told %v, words %v", told, m.Words())
	}
}

// Promise 7.1: what follows goes by what was answered, and may make the same access come again and again.
func TestAgain(t *testing.T) {
	m, f := mem(t, 0), &flow.Flow{}
	var wait func(w uint64)
	wait = func(w uint64) {
		if w != 3 {
			f.Load(0, wait)
		}
	}
	f.Load(0, wait)
	for w := range uint64(3) {
		for range 4 {
			step(t, m, f, load(0, 0, w), false)
		}
		m.Store(9, 0, w+1)
	}
	step(t, m, f, load(0, 0, 3), true)
	rests(t, m, f, true)
}

// Promise 7.1: a flow that is done goes on when something is made to come anew.
func TestAnew(t *testing.T) {
	m, f := mem(t, 5), &flow.Flow{}
	f.Of(6)
	for range 3 {
		f.Load(0, func(uint64) {})
		if f.Done() {
			t.Errorf("done, where a load is to come")
		}
		step(t, m, f, load(6, 0, 5), true)
		rests(t, m, f, true)
	}
}

// Promise 7.1: one thing is to come: what is made to come last.
func TestLastOneComes(t *testing.T) {
	wrong := func() { t.Errorf("what does not come any more is followed") }
	m, f := mem(t, 5), &flow.Flow{}
	f.Load(0, func(uint64) { wrong() })
	f.Run(flow.New(2, []api.Access{{Kind: api.AcLoad}}), wrong)
	f.Sleep(0, func(uint64) { wrong() })
	f.Store(0, 6, func() {})
	step(t, m, f, store(0, 0, 5, 6), true)
	f.Store(0, 7, wrong)
	f.Run(flow.New(2, []api.Access{{Kind: api.AcLoad}}), func() {})
	step(t, m, f, load(2, 0, 6), true)
	rests(t, m, f, true)
}

// Promise 7.1: the word that is loaded is that which is there at the step, whatever others did between.
func TestStepsOfOthersBetween(t *testing.T) {
	m, a, b := mem(t, 5, 0), &flow.Flow{}, &flow.Flow{}
	a.Of(1)
	b.Of(2)
	var got uint64
	a.Load(0, func(w uint64) { a.Add(1, w, func(w uint64) { got = w }) })
	b.Store(0, 8, func() { b.Store(1, 3, func() {}) })
	step(t, m, b, store(2, 0, 5, 8), false)
	step(t, m, a, load(1, 0, 8), false)
	step(t, m, b, store(2, 1, 0, 3), true)
	step(t, m, a, api.Access{Kind: api.AcAdd, Who: 1, At: 1, Old: 3, New: 11, Done: true}, true)
	if got != 11 {
		t.Errorf("told %d", got)
	}
}

// Promise 7.1: a sleep at a word that is not 0 is a load.
func TestSleepAwake(t *testing.T) {
	m, f, got := mem(t, 0, math.MaxUint64), &flow.Flow{}, uint64(0)
	f.Of(3)
	f.Sleep(1, func(w uint64) {
		got = w
		f.Store(1, 2, func() {})
	})
	step(t, m, f, load(3, 1, math.MaxUint64), false)
	if f.Asleep(m) || got != math.MaxUint64 {
		t.Errorf("Asleep %v, told %d", f.Asleep(m), got)
	}
	step(t, m, f, store(3, 1, math.MaxUint64, 2), true)
}

// Promise 7.1: a sleep at a word that is 0 loads it once, and does nothing more till another one stores it; then it is loaded anew.
func TestSleep(t *testing.T) {
	m, f, told := mem(t, 0, 4), &flow.Flow{}, []uint64{}
	f.Of(3)
	f.Sleep(0, func(w uint64) { told = append(told, w) })
	if f.Asleep(m) {
		t.Errorf("asleep, ahead of the first step")
	}
	step(t, m, f, load(3, 0, 0), false)
	for range 20 {
		if !f.Asleep(m) {
			t.Errorf("not asleep")
		}
		rests(t, m, f, false)
	}
	m.Store(7, 1, 9)
	if !f.Asleep(m) {
		t.Errorf("not asleep, where another word is stored")
	}
	rests(t, m, f, false)
	m.Store(7, 0, 1<<40)
	if f.Asleep(m) || f.Done() || len(told) != 0 {
		t.Errorf("its word is not 0: Asleep %v, Done %v, told %v", f.Asleep(m), f.Done(), told)
	}
	step(t, m, f, load(3, 0, 1<<40), true)
	if f.Asleep(m) || !slices.Equal(told, []uint64{1 << 40}) {
		t.Errorf("awake: Asleep %v, told %v", f.Asleep(m), told)
	}
}

// Promise 7.1: a word that is stored, and 0 again ahead of the step, wakes nobody.
func TestSleepOn(t *testing.T) {
	m, f := mem(t, 0), &flow.Flow{}
	f.Sleep(0, func(uint64) {})
	step(t, m, f, load(0, 0, 0), false)
	m.Store(1, 0, 5)
	m.Store(1, 0, 0)
	if !f.Asleep(m) {
		t.Errorf("not asleep, where the word is 0 again")
	}
	rests(t, m, f, false)
	m.Store(1, 0, 6)
	step(t, m, f, load(0, 0, 6), true)
}

// Promise 7.1: behind one sleep another one begins anew: it is not asleep ahead of its own load.
func TestSleepTwice(t *testing.T) {
	m, f := mem(t, 0, 0), &flow.Flow{}
	f.Sleep(0, func(uint64) { f.Sleep(1, func(uint64) {}) })
	step(t, m, f, load(0, 0, 0), false)
	m.Store(1, 0, 1)
	step(t, m, f, load(0, 0, 1), false)
	if f.Asleep(m) {
		t.Errorf("asleep, ahead of the second load")
	}
	step(t, m, f, load(0, 1, 0), false)
	if !f.Asleep(m) {
		t.Errorf("not asleep at the second word")
	}
	rests(t, m, f, false)
}

// Promise 7.1: a load of 0 is no sleep.
func TestLoadIsNoSleep(t *testing.T) {
	m, f := mem(t, 0), &flow.Flow{}
	f.Load(0, func(uint64) { f.Load(0, func(uint64) {}) })
	step(t, m, f, load(0, 0, 0), false)
	if f.Asleep(m) {
		t.Errorf("asleep behind a load")
	}
	step(t, m, f, load(0, 0, 0), true)
}

// Promise 7.1: who sleeps where there is no word does not wake.
func TestSleepBeyond(t *testing.T) {
	for _, at := range []int{math.MinInt, -1, 1, math.MaxInt} {
		m, f := mem(t, 5), &flow.Flow{}
		f.Sleep(at, func(uint64) { t.Errorf("it follows") })
		step(t, m, f, api.Access{Kind: api.AcLoad, At: at}, false)
		for range 20 {
			if f.Step(m) || f.Done() {
				t.Errorf("awake at %d", at)
			}
		}
	}
}

// Promise 7.1: the steps of a flow that runs a machine are that one's; what follows follows within the last one.
func TestRun(t *testing.T) {
	m, f, followed := mem(t, 5, 0), &flow.Flow{}, 0
	f.Of(1)
	f.Run(flow.New(2, []api.Access{{Kind: api.AcLoad}, {Kind: api.AcStore, At: 1, New: 3}}), func() {
		followed++
		f.Load(1, func(uint64) {})
	})
	if f.Done() || m.Clock() != 0 {
		t.Errorf("ahead of the first step: Done %v, clock %d", f.Done(), m.Clock())
	}
	step(t, m, f, load(2, 0, 5), false)
	if followed != 0 {
		t.Errorf("it follows ahead of the last step")
	}
	step(t, m, f, store(2, 1, 0, 3), false)
	if followed != 1 {
		t.Errorf("followed %d times", followed)
	}
	step(t, m, f, load(1, 1, 3), true)
	rests(t, m, f, true)
	if followed != 1 {
		t.Errorf("followed %d times", followed)
	}
}

// Promise 7.1: a flow is done within the last step of the machine that it runs, if nothing comes behind.
func TestRunLast(t *testing.T) {
	m, f, followed := mem(t, 5), &flow.Flow{}, 0
	f.Load(0, func(uint64) {
		f.Run(flow.New(2, []api.Access{{Kind: api.AcLoad}}), func() { followed++ })
	})
	step(t, m, f, load(0, 0, 5), false)
	step(t, m, f, load(2, 0, 5), true)
	rests(t, m, f, true)
	if followed != 1 {
		t.Errorf("followed %d times", followed)
	}
}

// Promise 7.1: what follows a machine that was gone on with ahead follows within the last of its steps that are left.
func TestRunBegun(t *testing.T) {
	m, f, c := mem(t, 5), &flow.Flow{}, flow.New(2, []api.Access{{Kind: api.AcLoad}, {Kind: api.AcLoad}})
	step(t, m, c, load(2, 0, 5), false)
	f.Run(c, func() {})
	step(t, m, f, load(2, 0, 5), true)
	if !c.Done() || !slices.Equal(c.Got(), []uint64{5, 5}) {
		t.Errorf("what was run: Done %v, Got %v", c.Done(), c.Got())
	}
}

// Promise 7.1: behind a machine that is done ahead what follows follows at once, without a step.
func TestRunDoneAhead(t *testing.T) {
	m := mem(t, 5, 0)
	behind := flow.New(2, []api.Access{{Kind: api.AcLoad}})
	behind.Step(m)
	for i, x := range []flow.Stepper{&flow.Flow{}, flow.New(2, nil), flow.Parts(2, nil), behind, (*flow.Flow)(nil), (*flow.Chain)(nil), nil} {
		f, followed := &flow.Flow{}, 0
		f.Run(x, func() { followed++ })
		if followed != 1 || !f.Done() {
			t.Errorf("machine %d: followed %d times, Done %v", i, followed, f.Done())
		}
		rests(t, m, f, true)
		f.Load(0, func(uint64) {
			f.Run(x, func() { f.Store(1, 0, func() { f.Run(x, func() { followed++ }) }) })
		})
		step(t, m, f, load(0, 0, 5), false)
		step(t, m, f, store(0, 1, 0, 0), true)
		if followed != 2 {
			t.Errorf("machine %d: followed %d times", i, followed)
		}
	}
}

// Promise 7.1: a flow is asleep where the machine that it runs is; what sleeps goes on when its word is stored.
func TestRunSleeps(t *testing.T) {
	m, f := mem(t, 0, 0), &flow.Flow{}
	f.Of(1)
	f.Run(flow.New(2, []api.Access{{Kind: api.AcNone}, {Kind: api.AcLoad, At: 1}}), func() { f.Sleep(1, func(uint64) {}) })
	if f.Asleep(m) {
		t.Errorf("asleep, ahead of the first step")
	}
	step(t, m, f, load(2, 0, 0), false)
	if !f.Asleep(m) {
		t.Errorf("not asleep within the machine that is run")
	}
	rests(t, m, f, false)
	m.Store(9, 0, 6)
	if f.Asleep(m) {
		t.Errorf("asleep, where the word is not 0")
	}
	step(t, m, f, load(2, 0, 6), false)
	step(t, m, f, load(2, 1, 0), false)
	if f.Asleep(m) {
		t.Errorf("asleep, ahead of its own sleep")
	}
	step(t, m, f, load(1, 1, 0), false)
	if !f.Asleep(m) {
		t.Errorf("not asleep behind the machine that was run")
	}
}

// mute goes on with a machine, and cannot tell whether it is asleep.
type mute struct {
	of flow.Stepper
}

func (x mute) Step(m *cell.Mem) bool { return x.of.Step(m) }

// Promise 7.1: of a machine that cannot tell whether it sleeps a flow does not either; it goes on with it all the same.
func TestRunMute(t *testing.T) {
	m, f, followed := mem(t, 0), &flow.Flow{}, 0
	f.Run(mute{flow.New(2, []api.Access{{Kind: api.AcNone}, {Kind: api.AcStore, New: 4}})}, func() { followed++ })
	step(t, m, f, load(2, 0, 0), false)
	if f.Asleep(m) {
		t.Errorf("asleep, by a machine that cannot tell")
	}
	rests(t, m, f, false)
	m.Store(9, 0, 6)
	step(t, m, f, load(2, 0, 6), false)
	if followed != 0 {
		t.Errorf("it follows ahead of the last step")
	}
	step(t, m, f, store(2, 0, 6, 4), true)
	if followed != 1 {
		t.Errorf("followed %d times", followed)
	}
}

// Promise 7.1: a machine within another one within another one: all that follows, follows within one step, from within.
func TestRunWithin(t *testing.T) {
	m := mem(t, 5, 0)
	var order []int
	outer, inner := &flow.Flow{}, &flow.Flow{}
	outer.Of(1)
	inner.Of(2)
	inner.Run(flow.New(3, []api.Access{{Kind: api.AcLoad}, {Kind: api.AcNone, At: 1}}), func() { order = append(order, 2) })
	outer.Run(inner, func() {
		order = append(order, 1)
		outer.Store(1, 0, func() {})
	})
	step(t, m, outer, load(3, 0, 5), false)
	step(t, m, outer, load(3, 1, 0), false)
	if !outer.Asleep(m) || !inner.Asleep(m) || len(order) != 0 {
		t.Errorf("Asleep %v, %v, order %v", outer.Asleep(m), inner.Asleep(m), order)
	}
	rests(t, m, outer, false)
	m.Store(9, 1, 8)
	if outer.Asleep(m) || inner.Asleep(m) {
		t.Errorf("asleep, where the word is not 0")
	}
	step(t, m, outer, load(3, 1, 8), false)
	if !slices.Equal(order, []int{2, 1}) || !inner.Done() {
		t.Errorf("order %v, Done %v", order, inner.Done())
	}
	step(t, m, outer, store(1, 1, 8, 0), true)
}

// R1: what follows may be nothing at all.
func TestNothingFollows(t *testing.T) {
	for i, come := range []func(f *flow.Flow){
		func(f *flow.Flow) { f.Load(0, nil) },
		func(f *flow.Flow) { f.Store(0, 5, nil) },
		func(f *flow.Flow) { f.Swap(0, 5, 5, nil) },
		func(f *flow.Flow) { f.Add(0, 0, nil) },
		func(f *flow.Flow) { f.Sleep(0, nil) },
		func(f *flow.Flow) { f.Run(flow.New(0, []api.Access{{Kind: api.AcLoad}}), nil) },
	} {
		m, f := mem(t, 5), &flow.Flow{}
		come(f)
		if f.Done() || !f.Step(m) || !f.Done() || m.Clock() != 1 || m.Bad() != 0 {
			t.Errorf("access %d: clock %d, Done %v", i, m.Clock(), f.Done())
		}
	}
	f := &flow.Flow{}
	f.Run(flow.New(0, nil), nil)
	if !f.Done() {
		t.Errorf("behind a machine that is done ahead: not done")
	}
}

// R1 and promise 7.1: of no flow nothing is to come, and a step does nothing, and answers true.
func TestNoFlow(t *testing.T) {
	var f *flow.Flow
	m := mem(t, 0, 5)
	f.Of(7)
	f.Load(0, func(uint64) {})
	f.Store(0, 1, func() {})
	f.Swap(0, 0, 1, func(bool) {})
	f.Add(0, 1, func(uint64) {})
	f.Sleep(1, func(uint64) {})
	f.Run(flow.New(1, []api.Access{{Kind: api.AcLoad}}), func() {})
	if f.Who() != 0 || f.Asleep(m) {
		t.Errorf("Who %d, Asleep %v", f.Who(), f.Asleep(m))
	}
	rests(t, m, f, true)
}

// A step without a memory does nothing: what is to come still comes.
func TestNoMemory(t *testing.T) {
	m, f := mem(t, 5), &flow.Flow{}
	if !f.Step(nil) {
		t.Errorf("nothing is to come, and it is not done")
	}
	followed := false
	f.Load(0, func(uint64) { followed = true })
	if f.Step(nil) || f.Done() || followed {
		t.Errorf("a step without a memory: Done %v", f.Done())
	}
	f.Asleep(nil)
	step(t, m, f, load(0, 0, 5), true)
}
