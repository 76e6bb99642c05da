package lock_test

import (
	"math"
	"slices"
	"testing"

	"turnspit/api"
	"turnspit/cell"
	"turnspit/layout"
	"turnspit/lock"
)

// round is where turns go round.
const round = 1 << 32

// lay is a layout of a few threads, and its memory.
func lay(t *testing.T) (*layout.Layout, *cell.Mem) {
	t.Helper()
	l, e := layout.Of(api.Config{Procs: 1, Threads: 5, Gs: 1})
	if e != api.OK {
		t.Fatalf("layout: %v", e)
	}
	m, e := cell.New(l.Len())
	if e != api.OK {
		t.Fatalf("memory: %v", e)
	}
	return l, m
}

// machine is what both machines have.
type machine interface {
	Step(m *cell.Mem) bool
	Done() bool
}

// step does a step that is to do just this access, and to be done, or not.
func step(t *testing.T, m *cell.Mem, x machine, want api.Access, done bool) {
	t.Helper()
	clock := m.Clock()
	if got := x.Step(m); got != done || x.Done() != done {
		t.Errorf("step: %v, Done %v, want %v", got, x.Done(), done)
	}
	if m.Clock() != clock+1 || m.Last() != want {
		t.Errorf("%d accesses, the last one %v, want %v", m.Clock()-clock, m.Last(), want)
	}
}

// rests does steps that are to do nothing, of a machine that is done.
func rests(t *testing.T, m *cell.Mem, x machine) {
	t.Helper()
	clock := m.Clock()
	for range 3 {
		if !x.Step(m) || !x.Done() || m.Clock() != clock {
			t.Errorf("a step of what is done: Done %v, clock %d, want %d", x.Done(), m.Clock(), clock)
		}
	}
}

func add(who, at int, old, w uint64) api.Access {
	return api.Access{Kind: api.AcAdd, Who: who, At: at, Old: old, New: w, Done: true}
}

func load(who, at int, w uint64) api.Access {
	return api.Access{Kind: api.AcLoad, Who: who, At: at, Old: w, Done: true}
}

func store(who, at int, old, w uint64) api.Access {
	return api.Access{Kind: api.AcStore, Who: who, At: at, Old: old, New: w, Done: true}
}

// turn holds the turn of an Acquire against what it should be.
func turn(t *testing.T, x *lock.Acquire, want uint64, known bool) {
	t.Helper()
	if got, is := x.Turn(); got != want || is != known {
		t.Errorf("Turn: %d, %v, want %d, %v", got, is, want, known)
	}
}

// words holds a lock's words against what they should be, and all others against 0.
func words(t *testing.T, l *layout.Layout, m *cell.Mem, which int, ticket, serving, owner uint64) {
	t.Helper()
	want := make([]uint64, l.Len())
	want[l.Ticket(which)], want[l.Serving(which)], want[l.Owner(which)] = ticket, serving, owner
	if !slices.Equal(m.Words(), want) || m.Bad() != 0 {
		t.Errorf("words of the locks: %v, want %v; bad %d", m.Words()[:6], want[:6], m.Bad())
	}
}

// Promise 8.1: to acquire a lock that nobody has, and to release it, access by access; Turn is known from the first step on.
func TestFreeLock(t *testing.T) {
	for which := range 2 {
		for _, who := range []int{0, 1, 4, 255, -1, math.MaxInt} {
			l, m := lay(t)
			ticket, serving, owner := l.Ticket(which), l.Serving(which), l.Owner(which)
			x := lock.New(l, which, who)
			if x.Done() || m.Clock() != 0 {
				t.Errorf("ahead of the first step: Done %v, clock %d", x.Done(), m.Clock())
			}
			turn(t, x, 0, false)
			step(t, m, x, add(who, ticket, 0, 1), false)
			turn(t, x, 0, true)
			step(t, m, x, load(who, serving, 0), false)
			turn(t, x, 0, true)
			step(t, m, x, store(who, owner, 0, uint64(who)+1), true)
			turn(t, x, 0, true)
			words(t, l, m, which, 1, 0, uint64(who)+1)
			rests(t, m, x)
			turn(t, x, 0, true)
			r := lock.NewRelease(l, which, who)
			if r.Done() {
				t.Errorf("a release is done ahead")
			}
			step(t, m, r, store(who, owner, uint64(who)+1, 0), false)
			step(t, m, r, add(who, serving, 0, 1), true)
			words(t, l, m, which, 1, 1, 0)
			rests(t, m, r)
		}
	}
}

// Promise 8.1: of a lock that another one has Serving is loaded again and again, a step each, until it is the turn.
func TestTakenLock(t *testing.T) {
	for which := range 2 {
		l, m := lay(t)
		serving := l.Serving(which)
		a, b := lock.New(l, which, 0), lock.New(l, which, 1)
		for range 3 {
			a.Step(m)
		}
		step(t, m, b, add(1, l.Ticket(which), 1, 2), false)
		turn(t, b, 1, true)
		for range 20 {
			step(t, m, b, load(1, serving, 0), false)
			turn(t, b, 1, true)
		}
		words(t, l, m, which, 2, 0, 1)
		r := lock.NewRelease(l, which, 0)
		r.Step(m)
		step(t, m, b, load(1, serving, 0), false)
		r.Step(m)
		step(t, m, b, load(1, serving, 1), false)
		step(t, m, b, store(1, l.Owner(which), 0, 2), true)
		turn(t, b, 1, true)
		words(t, l, m, which, 2, 1, 2)
	}
}

// Promise 8.1: who asks first has it first, whoever looks more often; a turn that is past, or to come, is not the own one.
func TestTurns(t *testing.T) {
	l, m := lay(t)
	order := []int{3, 0, 4, 1, 2}
	wait := map[int]*lock.Acquire{}
	for i, who := range order {
		wait[who] = lock.New(l, 0, who)
		step(t, m, wait[who], add(who, l.Ticket(0), uint64(i), uint64(i+1)), false)
		turn(t, wait[who], uint64(i), true)
	}
	for i, who := range order {
		for later := len(order) - 1; later > i; later-- {
			for range 3 {
				step(t, m, wait[order[later]], load(order[later], l.Serving(0), uint64(i)), false)
			}
		}
		step(t, m, wait[who], load(who, l.Serving(0), uint64(i)), false)
		step(t, m, wait[who], store(who, l.Owner(0), 0, uint64(who)+1), true)
		r := lock.NewRelease(l, 0, who)
		step(t, m, r, store(who, l.Owner(0), uint64(who)+1, 0), false)
		step(t, m, r, add(who, l.Serving(0), uint64(i), uint64(i+1)), true)
	}
	words(t, l, m, 0, 5, 5, 0)
}

// Promise 8.1: turns go round at 2^32.
func TestTurnsGoRound(t *testing.T) {
	for which := range 2 {
		l, m := lay(t)
		ticket, serving, owner := l.Ticket(which), l.Serving(which), l.Owner(which)
		m.Store(0, ticket, round-2)
		m.Store(0, serving, round-2)
		var l3 []*lock.Acquire
		for who, want := range []uint64{round - 2, round - 1, 0} {
			x := lock.New(l, which, who)
			step(t, m, x, add(who, ticket, want, (want+1)%round), false)
			turn(t, x, want, true)
			l3 = append(l3, x)
		}
		for who, want := range []uint64{round - 2, round - 1, 0} {
			for later := who + 1; later < 3; later++ {
				step(t, m, l3[later], load(later, serving, want), false)
			}
			step(t, m, l3[who], load(who, serving, want), false)
			step(t, m, l3[who], store(who, owner, 0, uint64(who)+1), true)
			turn(t, l3[who], want, true)
			r := lock.NewRelease(l, which, who)
			step(t, m, r, store(who, owner, uint64(who)+1, 0), false)
			step(t, m, r, add(who, serving, want, (want+1)%round), true)
		}
		words(t, l, m, which, 1, 1, 0)
	}
}

// Promise 8.1: the two locks do not meddle with one another.
func TestLocksApart(t *testing.T) {
	l, m := lay(t)
	a, b := lock.New(l, 0, 1), lock.New(l, 1, 2)
	for range 2 {
		if a.Step(m) || b.Step(m) {
			t.Errorf("done ahead of the third step")
		}
	}
	if !a.Step(m) || !b.Step(m) || !slices.Equal(m.Words()[:6], []uint64{1, 0, 2, 1, 0, 3}) {
		t.Errorf("words of the locks: %v", m.Words()[:6])
	}
}

// Promise 8.1: a release without an acquire does the same two accesses; so the next one's turn is past.
func TestReleaseAlone(t *testing.T) {
	l, m := lay(t)
	r := lock.NewRelease(l, 1, 3)
	step(t, m, r, store(3, l.Owner(1), 0, 0), false)
	step(t, m, r, add(3, l.Serving(1), 0, 1), true)
	words(t, l, m, 1, 0, 1, 0)
	x := lock.New(l, 1, 3)
	for range 20 {
		if x.Step(m) {
			t.Errorf("acquired, where the turn is past")
		}
	}
	turn(t, x, 0, true)
	words(t, l, m, 1, 1, 1, 0)
}

// Promise 8.1: machines of locks that there are not change nothing; nobody has such a lock.
func TestNoSuchLock(t *testing.T) {
	for _, which := range []int{math.MinInt, -1, 2, 3, math.MaxInt} {
		l, m := lay(t)
		x, r := lock.New(l, which, 1), lock.NewRelease(l, which, 1)
		for range 20 {
			if x.Step(m) || x.Done() {
				t.Errorf("the lock %d is acquired", which)
			}
		}
		if r.Step(m) || !r.Step(m) || !r.Done() {
			t.Errorf("a release of the lock %d has not two steps", which)
		}
		if m.Clock() != 22 || m.Bad() != 22 || slices.ContainsFunc(m.Words(), func(w uint64) bool { return w != 0 }) {
			t.Errorf("the lock %d: clock %d, bad %d, words %v", which, m.Clock(), m.Bad(), m.Words()[:6])
		}
	}
}

// R1 and promise 8.1: no machine is done, and its steps do nothing; of none no turn is known.
func TestNoMachine(t *testing.T) {
	_, m := lay(t)
	var x *lock.Acquire
	var r *lock.Release
	rests(t, m, x)
	rests(t, m, r)
	turn(t, x, 0, false)
	rests(t, m, &lock.Acquire{})
	rests(t, m, &lock.Release{})
	turn(t, &lock.Acquire{}, 0, false)
}

// Machines without a memory, or without a layout, do not panic.
func TestNoMemoryNoLayout(t *testing.T) {
	l, m := lay(t)
	for _, x := range []machine{lock.New(l, 0, 1), lock.NewRelease(l, 0, 1)} {
		x.Step(nil)
		x.Done()
	}
	for _, x := range []machine{lock.New(nil, 0, 1), lock.NewRelease(nil, 1, 1)} {
		for range 5 {
			x.Step(m)
			x.Done()
		}
	}
	if slices.ContainsFunc(m.Words(), func(w uint64) bool { return w != 0 }) {
		t.Errorf("words of a memory of another layout: %v", m.Words()[:6])
	}
}

// worker acquires and releases a lock, again and again; with the lock it counts in a word that is not the lock's.
type worker struct {
	who     int
	acquire *lock.Acquire
	release *lock.Release
	seen    uint64
	does    int // 0: it acquires, 1: it loads, 2: it stores, 3: it releases
	turns   []uint64
}

// step does a step of a worker; with the lock it is told to has, behind it to left.
func (x *worker) step(l *layout.Layout, m *cell.Mem, has, left func(who int)) {
	at := l.Word(layout.Needs)
	switch x.does {
	case 0:
		if x.acquire == nil {
			x.acquire = lock.New(l, 0, x.who)
		}
		if x.acquire.Step(m) {
			w, _ := x.acquire.Turn()
			x.turns = append(x.turns, w)
			x.does, x.acquire = 1, nil
			has(x.who)
		}
	case 1:
		x.seen, x.does = m.Load(x.who, at), 2
	case 2:
		m.Store(x.who, at, x.seen+1)
		x.does, x.release = 3, lock.NewRelease(l, 0, x.who)
		left(x.who)
	case 3:
		if x.release.Step(m) {
			x.does = 0
		}
	}
}

// Promise 8.2: however many go on between one another, one has the lock at a time, and turns are served in their order.
func TestOneAtATime(t *testing.T) {
	roll := uint64(7)
	for _, first := range []uint64{0, round - 20} {
		l, m := lay(t)
		m.Store(0, l.Ticket(0), first)
		m.Store(0, l.Serving(0), first)
		holder, times := api.None, uint64(0)
		workers := make([]*worker, 5)
		for who := range workers {
			workers[who] = &worker{who: who}
		}
		for range 20000 {
			roll = roll*6364136223846793005 + 1442695040888963407
			x := workers[roll>>33%5]
			x.step(l, m, func(who int) {
				if holder != api.None {
					t.Fatalf("%d has the lock, while %d has it", who, holder)
				}
				if w := x.turns[len(x.turns)-1]; w != (first+times)%round {
					t.Fatalf("the turn %d is served, want %d", w, (first+times)%round)
				}
				holder, times = who, times+1
				if w, _ := m.Peek(l.Owner(0)); w != uint64(who)+1 {
					t.Fatalf("Owner is %d, where %d has the lock", w, who)
				}
			}, func(int) { holder = api.None })
		}
		counted, _ := m.Peek(l.Word(layout.Needs))
		if holder != api.None {
			counted++
		}
		if counted != times || times < 500 {
			t.Errorf("counted %d, had %d times", counted, times)
		}
	}
}
