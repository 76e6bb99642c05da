package acts_test

import (
	"testing"

	"turnspit/acts"
	"turnspit/api"
	"turnspit/cell"
	"turnspit/flow"
	"turnspit/lock"
)

// told is a test that counts what it is told.
type told struct{ wrong, fatal int }

func (x *told) Helper()               {}
func (x *told) Errorf(string, ...any) { x.wrong++ }
func (x *told) Fatalf(string, ...any) { x.fatal++ }

// tells holds whether something is told to be wrong against whether it should be.
func tells(t *testing.T, what string, wrong bool, does func(x *told)) {
	t.Helper()
	x := &told{}
	does(x)
	if x.wrong > 0 != wrong || x.fatal > 0 {
		t.Errorf("%s: %v", what, *x)
	}
}

// odd is a machine that does so many accesses at each step, and says that it is done as it is told to, by a step and by Done.
type odd struct {
	accesses   int
	step, done bool
}

func (x *odd) Done() bool { return x.done }

func (x *odd) Step(m *cell.Mem) bool {
	for range x.accesses {
		m.Load(1, 0)
	}
	return x.step
}

// does is one step of a machine of who, that does accesses at a memory of 5, 6; it is held against an access by 1, and being done or not.
func does(t *testing.T, wrong bool, who int, list []api.Access, a acts.Act, done bool) {
	t.Helper()
	m, _ := cell.Of([]uint64{5, 6})
	tells(t, "a step", wrong, func(x *told) { acts.Step(x, m, flow.New(who, list), 1, a, done) })
}

// A step is to do just the access that is named, by who, and to be done, or not.
func TestStep(t *testing.T) {
	load := []api.Access{{Kind: api.AcLoad, At: 1}}
	does(t, false, 1, load, acts.Load(1), true)
	does(t, true, 2, load, acts.Load(1), true)
	does(t, true, 1, load, acts.Load(0), true)
	does(t, true, 1, load, acts.Load(1), false)
	does(t, true, 1, load, acts.Store(1, 0), true)
	does(t, false, 1, []api.Access{load[0], load[0]}, acts.Load(1), false)
	does(t, true, 1, nil, acts.Load(1), true)
	store := []api.Access{{Kind: api.AcStore, At: 1, New: 9}}
	does(t, false, 1, store, acts.Store(1, 9), true)
	does(t, true, 1, store, acts.Store(1, 8), true)
	swap := []api.Access{{Kind: api.AcSwap, At: 1, Old: 6, New: 9}}
	does(t, false, 1, swap, acts.Swap(1, 6, 9), true)
	does(t, true, 1, swap, acts.Swap(1, 5, 9), true)
	add := []api.Access{{Kind: api.AcAdd, At: 1, New: 1<<32 - 1}}
	does(t, false, 1, add, acts.Add(1, 1<<32-1), true)
	does(t, true, 1, add, acts.Add(1, 1), true)
	m, _ := cell.New(1)
	for _, y := range []odd{{0, false, false}, {2, false, false}, {1, true, false}, {1, false, true}} {
		tells(t, "a step of an odd machine", true, func(x *told) { acts.Step(x, m, &y, 1, acts.Load(0), false) })
	}
}

// An access at a place that there is not is told as a bad one.
func TestStepAtNoPlace(t *testing.T) {
	for _, at := range []int{api.None, 2} {
		does(t, false, 1, []api.Access{{Kind: api.AcLoad, At: at}}, acts.Load(at), true)
		does(t, false, 1, []api.Access{{Kind: api.AcStore, At: at, New: 3}}, acts.Store(at, 3), true)
		does(t, false, 1, []api.Access{{Kind: api.AcSwap, At: at, New: 3}}, acts.Swap(at, 0, 3), true)
		does(t, false, 1, []api.Access{{Kind: api.AcAdd, At: at, New: 1 << 40}}, acts.Add(at, 1<<40), true)
	}
}

// What is done rests; what is not done, or does accesses, does not.
func TestRests(t *testing.T) {
	m, _ := cell.New(1)
	tells(t, "a machine that is done", false, func(x *told) { acts.Rests(x, m, flow.New(0, nil)) })
	tells(t, "a machine that is asleep", true, func(x *told) { acts.Rests(x, m, flow.New(0, []api.Access{{}})) })
	for _, y := range []odd{{0, true, false}, {0, false, true}, {1, true, true}} {
		tells(t, "an odd machine", true, func(x *told) { acts.Rests(x, m, &y) })
	}
	tells(t, "a machine that does a load", true, func(x *told) { acts.Rests(x, m, flow.New(0, []api.Access{{Kind: api.AcLoad}})) })
}

// A machine is gone on with until it is done; one that does not end is told.
func TestAll(t *testing.T) {
	m, _ := cell.New(1)
	c := flow.New(0, make([]api.Access, 1))
	x := &told{}
	if acts.All(x, m, c); x.fatal != 1 {
		t.Errorf("a machine that is asleep: %v", *x)
	}
	m.Store(0, 0, 1)
	tells(t, "a machine that ends", false, func(x *told) { acts.All(x, m, c) })
	if !c.Done() {
		t.Errorf("not done")
	}
}

// A lock is had, and given back, by the accesses that are listed: those of the machines that do so.
func TestLock(t *testing.T) {
	for _, which := range []int{0, 1} {
		l, m := acts.Lay(t, api.Config{Procs: 1, Threads: 2, Gs: 1})
		x, y := lock.New(l, which, 1), lock.NewRelease(l, which, 1)
		for i, a := range acts.Acquire(l, which, 1) {
			acts.Step(t, m, x, 1, a, i == 2)
		}
		for i, a := range acts.Release(l, which) {
			acts.Step(t, m, y, 1, a, i == 1)
		}
		if !x.Done() || !y.Done() || m.Clock() != 5 {
			t.Errorf("lock %d: %d accesses", which, m.Clock())
		}
	}
}

// both holds one machine against another one, at a memory of 5, 6, which is handed back.
func both(t *testing.T, what string, wrong bool, x, y acts.Machine, done bool) (m *cell.Mem, looks int) {
	t.Helper()
	m, _ = cell.Of([]uint64{5, 6})
	told := &told{}
	acts.Same(told, m, x, y, done, func() { looks++ })
	if told.wrong+told.fatal > 0 != wrong {
		t.Errorf("%s: %v", what, *told)
	}
	return m, looks
}

// One machine does what the other one does, step by step, at a memory that is as its own is; then it is done, or not.
func TestSame(t *testing.T) {
	add, store := api.Access{Kind: api.AcAdd, At: 1, New: 3}, api.Access{Kind: api.AcStore, At: 0, New: 9}
	chain := func(who int, l ...api.Access) acts.Machine { return flow.New(who, l) }
	m, looks := both(t, "the same", false, chain(1, add, store), chain(1, add, store), true)
	if a, _ := m.Peek(0); a != 9 || looks != 2 || m.Clock() != 2 {
		t.Errorf("%d, %d looks, %d accesses", a, looks, m.Clock())
	}
	_, looks = both(t, "one that goes on", false, chain(1, add, store), chain(1, add), false)
	if looks != 1 {
		t.Errorf("%d looks", looks)
	}
	both(t, "one that was to go on", true, chain(1, add), chain(1, add), false)
	both(t, "one that was to be done", true, chain(1, add, store), chain(1, add), true)
	both(t, "one that is done too early", true, chain(1, add), chain(1, add, store), true)
	both(t, "another one's", true, chain(2, add), chain(1, add), true)
	both(t, "another access", true, chain(1, add), chain(1, store), true)
	both(t, "one access more", true, &odd{2, true, true}, chain(1, api.Access{Kind: api.AcLoad}), true)
	both(t, "no end", true, chain(1, api.Access{At: 9}), chain(1, api.Access{At: 9}), true)
}

// A config's memory has as many words as its layout, all 0; a config that may not be is told.
func TestLay(t *testing.T) {
	c := api.Config{Procs: 2, Threads: 3, Gs: 4}
	l, m := acts.Lay(t, c)
	if l.Config() != c || m.Len() != l.Len() || m.Clock() != 0 {
		t.Errorf("%v, %d words", l.Config(), m.Len())
	}
	x := &told{}
	if acts.Lay(x, api.Config{}); x.fatal != 1 {
		t.Errorf("a config that may not be: %v", *x)
	}
}

// Words are as they were, but for those that are named; what is handed in stays as it is.
func TestChanged(t *testing.T) {
	m, _ := cell.Of([]uint64{1, 2, 3, 0, 5})
	before := m.Words()
	m.Store(0, 3, 8)
	tells(t, "a word that was changed", true, func(x *told) { acts.Changed(x, m, before, nil) })
	tells(t, "a word that is named", false, func(x *told) { acts.Changed(x, m, before, map[int]uint64{3: 8}) })
	tells(t, "a word that is another one", true, func(x *told) { acts.Changed(x, m, before, map[int]uint64{3: 7}) })
	tells(t, "a word that was to be changed", true, func(x *told) { acts.Changed(x, m, before, map[int]uint64{3: 8, 4: 1}) })
	if before[3] != 0 {
		t.Errorf("what was handed in was changed")
	}
}
