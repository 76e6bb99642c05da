package spawn_test

import (
	"slices"
	"testing"

	"turnspit/acts"
	"turnspit/api"
	"turnspit/cell"
	"turnspit/gfree"
	"turnspit/globq"
	"turnspit/goro"
	"turnspit/layout"
	"turnspit/ring"
	"turnspit/spawn"
)

// owner is a thread that has a processor, and spawns, and ends what it has in its hands.
type owner struct {
	t, p    int
	spawn   *spawn.Spawn
	end     *spawn.End
	ends    int   // which one End ends
	runs    []int // those that it took out of its ring
	refused int
}

// step does a step: if it has nothing under way, it spawns, or takes one out of its ring, or ends one of those.
func (x *owner) step(l *layout.Layout, m *cell.Mem, a *goro.Arena, roll uint64) {
	switch {
	case !x.spawn.Done():
		if x.spawn.Step(m) && x.spawn.Refused() {
			x.refused++
		}
	case !x.end.Done():
		x.end.Step(m)
	case roll%3 == 0:
		x.takeNext(l, m)
	case roll%3 == 1 && len(x.runs) > 0:
		x.ends, x.runs = x.runs[0], x.runs[1:]
		x.end = spawn.NewEnd(l, x.t, x.ends)
		x.end.Step(m)
	default:
		x.spawn = spawn.New(l, a, x.t, x.p, int(roll%4))
		x.spawn.Step(m)
	}
}

// finish does a step of what is under way.
func (x *owner) finish(m *cell.Mem) {
	x.spawn.Step(m)
	x.end.Step(m)
}

// takeNext takes the next one, and those that lie in the ring.
func (x *owner) takeNext(l *layout.Layout, m *cell.Mem) {
	list, _ := ring.Gs(l, m, x.p)
	x.runs = append(x.runs, list...)
	tail, _ := m.Peek(l.Proc(x.p, layout.Tail))
	m.Store(x.t, l.Proc(x.p, layout.Head), tail)
	m.Store(x.t, l.Proc(x.p, layout.Next), 0)
}

// had are all goroutines that are spawned, and not ended, wherever they are: each one is to be there once.
func had(l *layout.Layout, m *cell.Mem, owners []*owner) []int {
	list, _ := globq.List(l, m)
	for _, x := range owners {
		lie, _ := ring.Gs(l, m, x.p)
		list = slices.Concat(list, lie, x.spawn.Holds(), x.runs)
		if !x.end.Done() && !x.end.Ended() {
			list = append(list, x.ends)
		}
	}
	slices.Sort(list)
	return list
}

// Promises 22.1 to 22.3: however many spawn and end, between one another: those that are spawned, and not ended, are had once, and are runnable; no others are; at last those that are not had lie on the free list.
func TestMany(t *testing.T) {
	const many = 12
	for seed := range uint64(6) {
		l, m := acts.Lay(t, api.Config{Procs: procs, Threads: procs, Gs: many})
		m.Store(99, l.Word(layout.Spinning), 1)
		a := makeArena(t)
		var owners []*owner
		for p := range procs {
			owners = append(owners, &owner{t: p, p: p})
		}
		roll := seed
		for n := range 30000 {
			roll = roll*6364136223846793005 + 1442695040888963407
			owners[roll>>33%procs].step(l, m, a, roll>>40)
			list := had(l, m, owners)
			for g := range many {
				w, _ := m.Peek(l.G(g, layout.GStatus))
				if _, is := slices.BinarySearch(list, g); is != (w == api.GRunnable) {
					t.Fatalf("seed %d, step %d: %d is %d; had %v", seed, n, g, w, list)
				}
			}
			if len(slices.Compact(slices.Clone(list))) != len(list) {
				t.Fatalf("seed %d, step %d: had %v", seed, n, list)
			}
		}
		refused := 0
		for n := range 600 { // by turns, as one may wait for another one's lock
			owners[n%procs].finish(m)
		}
		for _, x := range owners {
			refused += x.refused
			if !x.spawn.Done() || !x.end.Done() {
				t.Errorf("not done")
			}
		}
		free, right := gfree.List(l, m)
		made, _ := m.Peek(l.Word(layout.Gs))
		if !right || len(free)+len(had(l, m, owners)) != int(made) || refused < 50 || m.Bad() != 0 {
			t.Errorf("free %v, had %v, of %d; %d were refused, bad %d", free, had(l, m, owners), made, refused, m.Bad())
		}
	}
}

// Promise 22.3: while one that is refused goes on, step by step, no word but the lock's is changed, whatever the others are.
func TestRefusedAtEachStep(t *testing.T) {
	l, m := lay(t)
	m.Store(99, l.Word(layout.Gs), gs)
	m.Store(99, l.Word(layout.Spinning), 0)
	before := m.Words()
	x := spawn.New(l, makeArena(t), 1, 2, 1)
	for range 9 {
		x.Step(m)
		lock := map[int]uint64{}
		for at := l.Ticket(gsLock); at <= l.Owner(gsLock); at++ {
			lock[at], _ = m.Peek(at)
		}
		acts.Changed(t, m, before, lock)
		if x.Refused() != x.Done() {
			t.Errorf("Refused %v, Done %v", x.Refused(), x.Done())
		}
	}
	if !x.Done() {
		t.Errorf("not done")
	}
}
