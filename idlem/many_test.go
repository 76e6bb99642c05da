package idlem_test

import (
	"slices"
	"testing"

	"turnspit/acts"
	"turnspit/api"
	"turnspit/cell"
	"turnspit/idlem"
	"turnspit/layout"
	"turnspit/lock"
)

// worker gets a thread, and puts one back, again and again, each with the lock.
type worker struct {
	who  int
	has  []int
	get  *idlem.Get
	puts int            // the thread that it puts, None if it does not
	todo []acts.Machine // what is to be done with this turn at the lock
}

// begin begins with another turn.
func (x *worker) begin(l *layout.Layout, roll uint64) {
	x.puts = api.None
	var does acts.Machine
	if len(x.has) > 0 && roll%5 < 2 {
		x.puts, x.has = x.has[0], x.has[1:]
		does = idlem.New(l, x.who, x.puts)
	} else {
		x.get = idlem.NewGet(l, x.who)
		does = x.get
	}
	x.todo = []acts.Machine{lock.New(l, 0, x.who), does, lock.NewRelease(l, 0, x.who)}
}

// step does a step.
func (x *worker) step(l *layout.Layout, m *cell.Mem, roll uint64) {
	if len(x.todo) == 0 {
		x.begin(l, roll)
	}
	if x.todo[0].Step(m) {
		x.todo = x.todo[1:]
	}
	if len(x.todo) == 0 && x.get.T() != api.None {
		x.has = append(x.has, x.get.T())
	}
	if len(x.todo) == 0 {
		x.get = nil
	}
}

// hands are all threads that it has; the one that it puts until that is done.
func (x *worker) hands() []int {
	hands := slices.Clone(x.has)
	if x.get.T() != api.None {
		hands = append(hands, x.get.T())
	}
	if x.puts != api.None && len(x.todo) > 1 {
		hands = append(hands, x.puts)
	}
	return hands
}

// holdTogether holds, where nobody has the lock, the list against all workers' threads: each thread that was had is in one place, and there are just so many to be had as are in none.
func holdTogether(t *testing.T, l *layout.Layout, m *cell.Mem, workers []*worker) (had int) {
	t.Helper()
	lie, right := idlem.List(l, m)
	where := slices.Clone(lie)
	for _, x := range workers {
		where = append(where, x.hands()...)
	}
	slices.Sort(where)
	w, _ := m.Peek(l.Word(layout.Threads))
	want := make([]int, w)
	for i := range want {
		want[i] = i
	}
	if !right || !slices.Equal(where, want) || w > threads {
		t.Errorf("%v, %v, Threads %d", where, right, w)
	}
	if many, _ := m.Peek(l.Word(layout.IdleMs)); many != uint64(len(lie)) {
		t.Errorf("IdleMs: %d, where %v lie there", many, lie)
	}
	spare(t, l, m, threads-len(want)+len(lie))
	return len(want)
}

// Promises 18.1 and 18.3: however many get and put between one another, threads that are had are unlike at each step, and never more than the config's.
func TestMany(t *testing.T) {
	l, m := lay(t)
	workers := make([]*worker, 4)
	for who := range workers {
		workers[who] = &worker{who: who, puts: api.None}
	}
	roll, free, had := uint64(11), 0, 0
	for n := range 40000 {
		roll = roll*6364136223846793005 + 1442695040888963407
		workers[roll>>33%4].step(l, m, roll>>40)
		if w, _ := m.Peek(l.Owner(0)); w == 0 {
			free++
			had = holdTogether(t, l, m, workers)
		}
		var hands []int
		for _, x := range workers {
			hands = append(hands, x.hands()...)
		}
		slices.Sort(hands)
		if len(slices.Compact(slices.Clone(hands))) != len(hands) || len(hands) > 0 && hands[len(hands)-1] >= threads {
			t.Errorf("had: %v", hands)
		}
		if t.Failed() {
			t.Fatalf("step %d", n)
		}
	}
	if free < 1000 || had != threads || m.Bad() != 0 {
		t.Errorf("nobody had the lock %d times, %d were had, bad %d", free, had, m.Bad())
	}
}
