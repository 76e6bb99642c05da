package acts_test

import (
	"testing"

	"turnspit/acts"
	"turnspit/api"
	"turnspit/cell"
	"turnspit/flow"
)

// told is a test that counts what it is told.
type told struct{ wrong, fatal int }

func (x *told) Helper()               {}
func (x *told) Errorf(string, ...any) { x.wrong++ }
func (x *told) Fatalf(string, ...any) { x.fatal++ }

// tells holds whether something is told to be wrong against whether it should be.
func tells(t *testing.T, what string, wrong bool, does func(x *told)) {
	t.Helper()
	x := &told{}
	does(x)
	if x.wrong > 0 != wrong || x.fatal > 0 {
		t.Errorf("%s: %v", what, *x)
	}
}

// odd is a machine that does so many accesses at each step, and says that it is done as it is told to, by a step and by Done.
type odd struct {
	accesses   int
	step, done bool
}

func (x *odd) Done() bool { return x.done }

func (x *odd) Step(m *cell.Mem) bool {
	for range x.accesses {
		m.Load(1, 0)
	}
	return x.step
}

// does is one step of a machine of who, that does accesses at a memory of 5, 6; it is held against an access by 1, and being done or not.
func does(t *testing.T, wrong bool, who int, list []api.Access, a acts.Act, done bool) {
	t.Helper()
	m, _ := cell.Of([]uint64{5, 6})
	tells(t, "a step", wrong, func(x *told) { acts.Step(x, m, flow.New(who, list), 1, a, done) })
}

// A step is to do just the access that is named, by who, and to be done, or not.
func TestStep(t *testing.T) {
	load := []api.Access{{Kind: api.AcLoad, At: 1}}
	does(t, false, 1, load, acts.Load(1), true)
	does(t, true, 2, load, acts.Load(1), true)
	does(t, true, 1, load, acts.Load(0), true)
	does(t, true, 1, load, acts.Load(1), false)
	does(t, true, 1, load, acts.Store(1, 0), true)
	does(t, false, 1, []api.Access{load[0], load[0]}, acts.Load(1), false)
	does(t, true, 1, nil, acts.Load(1), true)
	store := []api.Access{{Kind: api.AcStore, At: 1, New: 9}}
	does(t, false, 1, store, acts.Store(1, 9), true)
	does(t, true, 1, store, acts.Store(1, 8), true)
	swap := []api.Access{{Kind: api.AcSwap, At: 1, Old: 6, New: 9}}
	does(t, false, 1, swap, acts.Swap(1, 6, 9), true)
	does(t, true, 1, swap, acts.Swap(1, 5, 9), true)
	add := []api.Access{{Kind: api.AcAdd, At: 1, New: 1<<32 - 1}}
	does(t, false, 1, add, acts.Add(1, 1<<32-1), true)
	does(t, true, 1, add, acts.Add(1, 1), true)
	m, _ := cell.New(1)
	for _, y := range []odd{{0, false, false}, {2, false, false}, {1, true, false}, {1, false, true}} {
		tells(t, "a step of an odd machine", true, func(x *told) { acts.Step(x, m, &y, 1, acts.Load(0), false) })
	}
}

// An access at a place that there is not is told as a bad one.
func TestStepAtNoPlace(t *testing.T) {
	for _, at := range []int{api.None, 2} {
		does(t, false, 1, []api.Access{{Kind: api.AcLoad, At: at}}, acts.Load(at), true)
		does(t, false, 1, []api.Access{{Kind: api.AcStore, At: at, New: 3}}, acts.Store(at, 3), true)
		does(t, false, 1, []api.Access{{Kind: api.AcSwap, At: at, New: 3}}, acts.Swap(at, 0, 3), true)
		does(t, false, 1, []api.Access{{Kind: api.AcAdd, At: at, New: 1 << 40}}, acts.Add(at, 1<<40), true)
	}
}

// What is done rests; what is not done, or does accesses, does not.
func TestRests(t *testing.T) {
	m, _ := cell.New(1)
	tells(t, "a machine that is done", false, func(x *told) { acts.Rests(x, m, flow.New(0, nil)) })
	tells(t, "a machine that is asleep", true, func(x *told) { acts.Rests(x, m, flow.New(0, []api.Access{{}})) })
	for _, y := range []odd{{0, true, false}, {0, false, true}, {1, true, true}} {
		tells(t, "an odd machine", true, func(x *told) { acts.Rests(x, m, &y) })
	}
	tells(t, "a machine that does a load", true, func(x *told) { acts.Rests(x, m, flow.New(0, []api.Access{{Kind: api.AcLoad}})) })
}

// A machine is gone on with until it is done; one that does not end is told.
func TestAll(t *testing.T) {
	m, _ := cell.New(1)
	c := flow.New(0, make([]api.Access, 1))
	x := &told{}
	if acts.All(x, m, c); x.fatal != 1 {
		t.Errorf("a machine that is asleep: %v", *x)
	}
	m.Store(0, 0, 1)
	tells(t, "a machine that ends", false, func(x *told) { acts.All(x, m, c) })
	if !c.Done() {
		t.Errorf("not done")
	}
}

// A config's memory has as many words as its layout, all 0; a config that may not be is told.
func TestLay(t *testing.T) {
	c := api.Config{Procs: 2, Threads: 3, Gs: 4}
	l, m := acts.Lay(t, c)
	if l.Config() != c || m.Len() != l.Len() || m.Clock() != 0 {
		t.Errorf("%v, %d words", l.Config(), m.Len())
	}
	x := &told{}
	if acts.Lay(x, api.Config{}); x.fatal != 1 {
		t.Errorf("a config that may not be: %v", *x)
	}
}

// Words are as they were, but for those that are named; what is handed in stays as it is.
func TestChanged(t *testing.T) {
	m, _ := cell.Of([]uint64{1, 2, 3, 0, 5})
	before := m.Words()
	m.Store(0, 3, 8)
	tells(t, "a word that was changed", true, func(x *told) { acts.Changed(x, m, before, nil) })
	tells(t, "a word that is named", false, func(x *told) { acts.Changed(x, m, before, map[int]uint64{3: 8}) })
	tells(t, "a word that is another one", true, func(x *told) { acts.Changed(x, m, before, map[int]uint64{3: 7}) })
	tells(t, "a word that was to be changed", true, func(x *told) { acts.Changed(x, m, before, map[int]uint64{3: 8, 4: 1}) })
	if before[3] != 0 {
		t.Errorf("what was handed in was changed")
	}
}
