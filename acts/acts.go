// Package acts is no layer: it holds machines against the accesses that they are to do. Tests alone use it.
package acts

import (
	"turnspit/api"
	"turnspit/cell"
	"turnspit/flow"
	"turnspit/layout"
)

const (
	round  = 1 << 32 // where an add goes round
	steps  = 5000    // more than a machine does by itself that ends
	behind = 3       // how often a machine is gone on with that is done
)

// T is a test, as far as it is told what is wrong.
type T interface {
	Helper()
	Errorf(format string, args ...any)
	Fatalf(format string, args ...any)
}

// Machine is a machine that can tell whether it is done.
type Machine interface {
	Step(m *cell.Mem) bool
	Done() bool
}

// Act is an access that a step is to do.
type Act struct {
	kind, at int
	old, w   uint64 // what a swap awaits; what is stored, or added
}

// Load is a load.
func Load(at int) Act {
	return Act{kind: api.AcLoad, at: at}
}

// Store is a store.
func Store(at int, w uint64) Act {
	return Act{kind: api.AcStore, at: at, w: w}
}

// Swap is a swap.
func Swap(at int, old, w uint64) Act {
	return Act{kind: api.AcSwap, at: at, old: old, w: w}
}

// Add is an add.
func Add(at int, w uint64) Act {
	return Act{kind: api.AcAdd, at: at, w: w}
}

// by is the access, by who, as the memory is right now.
func (a Act) by(m *cell.Mem, who int) api.Access {
	was, is := m.Peek(a.at)
	w := a.w
	switch {
	case a.kind == api.AcAdd && is:
		w = (was + w) % round
	case a.kind == api.AcSwap:
		is = is && was == a.old
	}
	return api.Access{Kind: a.kind, Who: who, At: a.at, Old: was, New: w, Done: is}
}

// Step does a step that is to do just this access, and to be done, or not.
func Step(t T, m *cell.Mem, x Machine, who int, a Act, done bool) {
	t.Helper()
	want, clock := a.by(m, who), m.Clock()
	if got := x.Step(m); got != done || x.Done() != done {
		t.Errorf("step: %v, Done %v, want %v", got, x.Done(), done)
	}
	if m.Clock() != clock+1 || m.Last() != want {
		t.Errorf("%d accesses, the last one %v, want %v", m.Clock()-clock, m.Last(), want)
	}
}

// Rests does steps that are to do nothing, of a machine that is done.
func Rests(t T, m *cell.Mem, x Machine) {
	t.Helper()
	clock := m.Clock()
	for range behind {
		if !x.Step(m) || !x.Done() || m.Clock() != clock {
			t.Errorf("a step of what is done: Done %v, clock %d, want %d", x.Done(), m.Clock(), clock)
		}
	}
}

// All goes on with a machine until it is done.
func All(t T, m *cell.Mem, x flow.Stepper) {
	t.Helper()
	for range steps {
		if x.Step(m) {
			return
		}
	}
	t.Fatalf("a machine that does not end")
}

// Acquire are the accesses by which who has a lock, if nobody has it.
func Acquire(l *layout.Layout, lock, who int) []Act {
	return []Act{Add(l.Ticket(lock), 1), Load(l.Serving(lock)), Store(l.Owner(lock), uint64(who)+1)}
}

// Release are the accesses by which who has a lock gives it back.
func Release(l *layout.Layout, lock int) []Act {
	return []Act{Store(l.Owner(lock), 0), Add(l.Serving(lock), 1)}
}

// Same goes on with x until y is done, which goes on at a memory of its own that is as m is: each step of x is to do just what y's does, and the last one is to end x, or not. Behind each of them look looks at both.
func Same(t T, m *cell.Mem, x, y Machine, done bool, look func()) {
	t.Helper()
	other, _ := cell.Of(m.Words())
	for n := range steps {
		clock, theirs := m.Clock(), other.Clock()
		over := y.Step(other)
		if got := x.Step(m); got != (over && done) || x.Done() != got {
			t.Errorf("step %d: %v, Done %v, want %v", n, got, x.Done(), over && done)
		}
		if m.Clock()-clock != other.Clock()-theirs || m.Last() != other.Last() {
			t.Fatalf("step %d: %d accesses, the last one %v, want %v", n, m.Clock()-clock, m.Last(), other.Last())
			return
		}
		look()
		if over {
			return
		}
	}
	t.Fatalf("a machine that does not end")
}

// Lay is a layout of a config, and its memory.
func Lay(t T, c api.Config) (*layout.Layout, *cell.Mem) {
	t.Helper()
	l, e := layout.Of(c)
	if e != api.OK {
		t.Fatalf("layout: %v", e)
	}
	m, e := cell.New(l.Len())
	if e != api.OK {
		t.Fatalf("memory: %v", e)
	}
	return l, m
}

// Changed holds all words against those of before, but for those that are named with what they should be.
func Changed(t T, m *cell.Mem, before []uint64, want map[int]uint64) {
	t.Helper()
	for at, is := range m.Words() {
		w, named := want[at]
		if !named {
			w = before[at]
		}
		if is != w {
			t.Errorf("word %d: %d, want %d", at, is, w)
		}
	}
}
