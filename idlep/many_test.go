package idlep_test

import (
	"slices"
	"testing"

	"turnspit/acts"
	"turnspit/api"
	"turnspit/cell"
	"turnspit/idlep"
	"turnspit/layout"
	"turnspit/lock"
)

// Promise 17.3: the list is a pile: what was put last is got first; IdlePs and Mask tell of those that lie there.
func TestPile(t *testing.T) {
	l, m := lay(t)
	stale(l, m)
	var lie []int
	roll := uint64(5)
	for range 3000 {
		roll = roll*6364136223846793005 + 1442695040888963407
		if p := int(roll >> 40 % procs); roll>>33%3 > 0 && !slices.Contains(lie, p) {
			put(t, l, m, p)
			lie = slices.Insert(lie, 0, p)
		} else {
			x := idlep.NewGet(l, 0)
			acts.All(t, m, x)
			if len(lie) == 0 {
				is(t, x, api.None)
				continue
			}
			is(t, x, lie[0])
			lie = lie[1:]
		}
		words(t, l, m, bits(lie), first(lie), uint64(len(lie)))
		lists(t, l, m, true, lie...)
	}
}

// worker gets a processor, and puts one back, again and again, each with the lock.
type worker struct {
	who  int
	has  []int
	put  *idlep.Put
	get  *idlep.Get
	todo []acts.Machine // what is to be done with this turn at the lock
}

// begin begins with another turn.
func (x *worker) begin(l *layout.Layout, roll uint64) {
	x.put, x.get = nil, nil
	var does acts.Machine
	if len(x.has) > 0 && roll%2 == 0 {
		x.put = idlep.New(l, x.who, x.has[0])
		x.has = x.has[1:]
		does = x.put
	} else {
		x.get = idlep.NewGet(l, x.who)
		does = x.get
	}
	x.todo = []acts.Machine{lock.New(l, 0, x.who), does, lock.NewRelease(l, 0, x.who)}
}

// step does a step.
func (x *worker) step(l *layout.Layout, m *cell.Mem, roll uint64) {
	if len(x.todo) == 0 {
		x.begin(l, roll)
	}
	if x.todo[0].Step(m) {
		x.todo = x.todo[1:]
	}
	if len(x.todo) == 0 && x.get.P() != api.None {
		x.has = append(x.has, x.get.P())
		x.get = nil
	}
}

// hands are all processors that it has.
func (x *worker) hands() []int {
	hands := slices.Clone(x.has)
	for _, p := range []int{x.put.Holds(), x.get.P()} {
		if p != api.None {
			hands = append(hands, p)
		}
	}
	return hands
}

// Promises 17.1 and 17.3: however many put and get between one another, each processor at each step lies on the list, or one has it; and where nobody has the lock, IdlePs and Mask tell of those that lie there.
func TestMany(t *testing.T) {
	const many = 7
	l, m := layOf(t, many)
	workers := make([]*worker, 4)
	for who := range workers {
		workers[who] = &worker{who: who}
	}
	workers[0].has = []int{0, 1, 2, 3, 4, 5, 6}
	roll, free, got := uint64(11), 0, 0
	for n := range 40000 {
		roll = roll*6364136223846793005 + 1442695040888963407
		workers[roll>>33%4].step(l, m, roll>>40)
		lie, right := idlep.List(l, m)
		where := slices.Clone(lie)
		for _, x := range workers {
			where = append(where, x.hands()...)
			if x.get.P() != api.None {
				got++
			}
		}
		slices.Sort(where)
		if !right || !slices.Equal(where, []int{0, 1, 2, 3, 4, 5, 6}) {
			t.Fatalf("step %d: %v, %v", n, where, right)
		}
		if w, _ := m.Peek(l.Owner(0)); w == 0 {
			free++
			words(t, l, m, bits(lie), first(lie), uint64(len(lie)))
		}
		if t.Failed() {
			t.Fatalf("step %d", n)
		}
	}
	if free < 1000 || got < 1000 || m.Bad() != 0 {
		t.Errorf("nobody had the lock %d times, %d times one was just got, bad %d", free, got, m.Bad())
	}
}
