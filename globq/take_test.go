package globq_test

import (
	"math"
	"slices"
	"testing"

	"turnspit/api"
	"turnspit/cell"
	"turnspit/globq"
	"turnspit/layout"
	"turnspit/lock"
	"turnspit/ring"
)

// beat is what a step of a Take is to do, and what is told of it from then on.
type beat struct {
	act
	g    int
	held []int
}

// takeOf are the beats of a Take for p: of so many, where these lie in the queue, and the ring ends at tail.
func takeOf(l *layout.Layout, queue []int, n, p int, tail uint64) []beat {
	g, held := api.None, []int(nil)
	var beats []beat
	does := func(a act) { beats = append(beats, beat{a, g, slices.Clone(held)}) }
	does(load(l.Word(layout.GlobSize)))
	for i := range n {
		does(load(l.Word(layout.GlobHead)))
		if len(queue) == 0 {
			break
		}
		one, link := queue[0], uint64(0)
		queue = queue[1:]
		if len(queue) > 0 {
			link = uint64(queue[0]) + 1
		}
		does(load(l.G(one, layout.GLink)))
		held = append(held, one)
		if i == 0 {
			g = one
		}
		does(store(l.Word(layout.GlobHead), link))
		if link == 0 {
			does(store(l.Word(layout.GlobTail), 0))
		}
		does(add(l.Word(layout.GlobSize), round-1))
		if i == 0 {
			continue
		}
		does(load(l.Proc(p, layout.Tail)))
		does(store(l.Ring(p, tail), uint64(one)+1))
		held = held[:1]
		tail = (tail + 1) % round
		does(store(l.Proc(p, layout.Tail), tail))
	}
	return beats
}

// takes does a Take step by step, and holds it against its beats.
func takes(t *testing.T, m *cell.Mem, x *globq.Take, who int, beats []beat) {
	t.Helper()
	if x.Done() {
		t.Errorf("done ahead of the first step")
	}
	is(t, x, api.None)
	holds(t, x)
	for i, b := range beats {
		step(t, m, x, who, b.act, i == len(beats)-1)
		is(t, x, b.g)
		holds(t, x, b.held...)
		if t.Failed() {
			t.Fatalf("beat %d of %d", i, len(beats))
		}
	}
	last := beats[len(beats)-1]
	rests(t, m, x)
	is(t, x, last.g)
	holds(t, x, last.held...)
}

// rising are so many goroutines, from first on.
func rising(first, n int) []int {
	list := make([]int, n)
	for i := range list {
		list[i] = first + i
	}
	return list
}

// Promises 13.1 and 13.2: how many a Take takes: the least of GlobSize, its share for a processor and 1, Half, and the bound.
func TestTakeHowMany(t *testing.T) {
	cases := []struct {
		procs int
		size  uint64
		most  int
		n     int // how many are to be taken, where enough lie there
	}{
		{1, 1, 0, 1}, {1, 2, 0, 2}, {1, 5, 0, 5}, {1, 127, 0, 127}, {1, 128, 0, 128}, {1, 129, 0, 128}, {1, 300, 0, 128},
		{2, 1, 0, 1}, {2, 2, 0, 2}, {2, 3, 0, 2}, {2, 4, 0, 3}, {2, 5, 0, 3}, {2, 253, 0, 127}, {2, 254, 0, 128}, {2, 255, 0, 128}, {2, 256, 0, 128}, {2, 300, 0, 128},
		{3, 1, 0, 1}, {3, 2, 0, 1}, {3, 3, 0, 2}, {3, 300, 0, 101},
		{64, 1, 0, 1}, {64, 63, 0, 1}, {64, 64, 0, 2}, {64, 200, 0, 4}, {64, 300, 0, 5},
		{2, 20, 1, 1}, {2, 20, 2, 2}, {2, 20, 10, 10}, {2, 20, 11, 11}, {2, 20, 12, 11}, {2, 1, 2, 1}, {2, 1, 1, 1},
		{1, 300, 127, 127}, {1, 300, 128, 128}, {1, 300, 129, 128}, {1, 300, math.MaxInt, 128}, {1, 5, 6, 5},
		{2, 20, 0, 11}, {2, 20, -1, 11}, {2, 20, -5, 11}, {2, 20, math.MinInt, 11}, {2, 20, math.MaxInt, 11},
		{1, round - 1, 0, 128}, {2, round, 0, 128}, {64, round + 1, 0, 128}, {2, 1 << 63, 0, 128}, {2, math.MaxUint64, 3, 3}, {2, math.MaxUint64, 0, 128},
		{1, math.MaxUint64 - 1, 0, 128},
		{1, math.MaxUint64, 0, 1}, // the share, and 1, is 0: one is pulled, and no other one
	}
	for _, x := range cases {
		for _, lying := range []int{300, x.n, x.n - 1, 1, 0} {
			l, m := layOf(t, api.Config{Procs: x.procs, Threads: x.procs, Gs: 400})
			queue := rising(50, lying)
			put(t, l, m, queue...)
			m.Store(0, l.Word(layout.GlobSize), x.size)
			takes(t, m, globq.NewTake(l, 3, 0, x.most), 3, takeOf(l, queue, x.n, 0, 0))
			taken := min(x.n, lying)
			lists(t, l, m, true, queue[taken:]...)
			if got, right := ring.Gs(l, m, 0); !right || !slices.Equal(got, queue[min(1, taken):taken]) {
				t.Errorf("%v, %d lie there: the ring has %v", x, lying, got)
			}
			if m.Bad() != 0 {
				t.Errorf("bad: %d", m.Bad())
			}
		}
	}
}

// Promises 13.1 and 13.2: where GlobSize is 0, none is taken, whatever lies there, and whatever is asked.
func TestTakeOfNone(t *testing.T) {
	for _, who := range whos {
		for _, most := range []int{0, 1, 2, -1} {
			l, m := lay(t)
			put(t, l, m, 3, 1)
			m.Store(0, l.Word(layout.GlobSize), 0)
			before := m.Words()
			takes(t, m, globq.NewTake(l, who, 1, most), who, takeOf(l, []int{3, 1}, 0, 1, 0))
			changed(t, m, before, nil)
		}
	}
}

// Promise 13.1: a ring that goes round, at RingSize and at 2^32; what lies there already stays, and Head and Next are not asked.
func TestTakeIntoARing(t *testing.T) {
	for _, who := range whos {
		for _, tail := range []uint64{0, 1, 100, 253, 254, 255, 256, 257, 511, round - 256, round - 3, round - 2, round - 1, round, round + 5, 1<<40 + 254, math.MaxUint64} {
			for p := range procs {
				l, m := lay(t)
				stale(l, m)
				m.Store(0, l.Word(layout.GlobSize), 0)
				put(t, l, m, 4, 0, 5, 1, 2)
				m.Store(0, l.Word(layout.GlobSize), 6) // for one of two processors 4
				m.Store(0, l.Proc(p, layout.Tail), tail)
				before := m.Words()
				takes(t, m, globq.NewTake(l, who, p, 0), who, takeOf(l, []int{4, 0, 5, 1, 2}, 4, p, tail))
				changed(t, m, before, map[int]uint64{
					l.Word(layout.GlobHead): 3, l.Word(layout.GlobSize): 2,
					l.Ring(p, tail): 1, l.Ring(p, tail+1): 6, l.Ring(p, tail+2): 2, l.Proc(p, layout.Tail): (tail + 3) % round,
				})
			}
		}
	}
}

// Promise 13.1: for a processor that there is not what is more than the one is laid nowhere.
func TestTakeForNoProc(t *testing.T) {
	for _, p := range []int{math.MinInt, -2, -1, procs, procs + 1, math.MaxInt} {
		l, m := lay(t)
		put(t, l, m, 4, 0, 5, 1)
		before := m.Words()
		beats := takeOf(l, []int{4, 0, 5, 1}, 3, p, 0)
		beats[len(beats)-1].w = 1 // Tail, which is not there, is 0 for each of them
		takes(t, m, globq.NewTake(l, 2, p, 0), 2, beats)
		changed(t, m, before, map[int]uint64{l.Word(layout.GlobHead): 2, l.Word(layout.GlobSize): 1})
		if m.Bad() != 6 {
			t.Errorf("processor %d: bad %d", p, m.Bad())
		}
	}
}

// Promise 13.1: words that are no goroutine are taken as they are.
func TestTakeOfNoSuch(t *testing.T) {
	for _, w := range wrong {
		l, m := lay(t)
		put(t, l, m, 4, 0)
		m.Store(0, l.G(4, layout.GLink), w)
		x := globq.NewTake(l, 1, 1, 0)
		all(t, m, x)
		is(t, x, 4)
		holds(t, x, 4)
		if words, _ := ring.Words(l, m, 1); !slices.Equal(words, []uint64{w}) {
			t.Errorf("the ring: %v, want %d", words, w)
		}
		l, m = lay(t)
		put(t, l, m, 4, 0)
		m.Store(0, l.Word(layout.GlobHead), w)
		x = globq.NewTake(l, 1, 1, 0)
		all(t, m, x)
		is(t, x, int(w-1))
		holds(t, x, int(w-1))
	}
}

// Promises 13.1 and 13.2: what others store between two steps is seen as it is at each load: GlobSize once, Tail anew for each one.
func TestTakeBetween(t *testing.T) {
	l, m := lay(t)
	put(t, l, m, 4, 0, 5, 1)
	tail := l.Proc(1, layout.Tail)
	x := globq.NewTake(l, 3, 1, 0)
	step(t, m, x, 3, load(l.Word(layout.GlobSize)), false)
	m.Store(9, l.Word(layout.GlobSize), 1) // three were to be taken already
	for _, b := range takeOf(l, []int{4, 0, 5, 1}, 3, 1, 0)[1:9] {
		step(t, m, x, 3, b.act, false)
	}
	holds(t, x, 4, 0)
	m.Store(9, tail, 40)
	step(t, m, x, 3, load(tail), false)
	m.Store(9, tail, 50)
	step(t, m, x, 3, store(l.Ring(1, 40), 1), false)
	m.Store(9, l.Ring(1, 40), 99)
	holds(t, x, 4, 0)
	step(t, m, x, 3, store(tail, 41), false)
	holds(t, x, 4)
	m.Store(9, tail, 60)
	m.Store(9, l.Word(layout.GlobHead), 0)
	step(t, m, x, 3, load(l.Word(layout.GlobHead)), true) // there is none any more
	is(t, x, 4)
	holds(t, x, 4)
}

// Promises 13.1 and 13.2: where the first one that is pulled is none, there is no other one, however many were to be taken, and whatever others put behind that.
func TestTakeFirstIsNone(t *testing.T) {
	for _, size := range []uint64{1, 2, 3, 200, round, math.MaxUint64} {
		for _, most := range []int{0, 1, 2, -1} {
			l, m := lay(t)
			m.Store(0, l.Word(layout.GlobSize), size)
			x := globq.NewTake(l, 3, 1, most)
			step(t, m, x, 3, load(l.Word(layout.GlobSize)), false)
			step(t, m, x, 3, load(l.Word(layout.GlobHead)), true)
			put(t, l, m, 5, 2)
			before := m.Words()
			rests(t, m, x)
			is(t, x, api.None)
			holds(t, x)
			changed(t, m, before, nil)
		}
	}
}

// The chapter's example.
func TestExample(t *testing.T) {
	l, m := layOf(t, api.Config{Procs: 2, Threads: 2, Gs: 3})
	put(t, l, m, 2, 0)
	put(t, l, m, 1)
	lists(t, l, m, true, 2, 0, 1)
	x := globq.NewTake(l, 0, 1, 0)
	all(t, m, x)
	is(t, x, 2)
	if got, right := ring.Gs(l, m, 1); !right || !slices.Equal(got, []int{0}) {
		t.Errorf("the ring: %v", got)
	}
	lists(t, l, m, true, 1)
}

// Promise 13.3: what is put is pulled in the order in which it was put, however many Puts and Pulls come one behind the other.
func TestOrder(t *testing.T) {
	l, m := layOf(t, api.Config{Procs: 1, Threads: 1, Gs: 40})
	var want []int
	rest := rising(0, 40)
	roll, empty := uint64(3), 0
	for range 5000 {
		roll = roll*6364136223846793005 + 1442695040888963407
		if n := int(roll >> 40 % 4); roll>>33%2 == 0 && n <= len(rest) {
			put(t, l, m, rest[:n]...)
			want = append(want, rest[:n]...)
			rest = slices.Delete(rest, 0, n)
		} else if len(want) > 0 {
			pull(t, l, m, want[0])
			rest = slices.Insert(rest, int(roll>>50)%(len(rest)+1), want[0])
			want = want[1:]
		} else {
			pull(t, l, m, api.None)
			empty++
		}
		lists(t, l, m, true, want...)
		if size, _ := m.Peek(l.Word(layout.GlobSize)); size != uint64(len(want)) || t.Failed() {
			t.Fatalf("GlobSize: %d of %v", size, want)
		}
	}
	if empty < 5 || m.Bad() != 0 {
		t.Errorf("%d Pulls of none; bad %d", empty, m.Bad())
	}
}

// worker does what it is to do with the scheduler's lock, again and again; its hand has what it pulled, or took.
type worker struct {
	who  int
	todo []machine // what comes one behind the other
	put  *globq.Put
	pull *globq.Pull
	take *globq.Take
	hand []int
}

// begin chooses what comes next, as a roll says: it puts what is in its hand, or pulls, or takes for its own processor.
func (x *worker) begin(l *layout.Layout, roll uint64) {
	x.put, x.pull, x.take = nil, nil, nil
	var does machine
	switch {
	case len(x.hand) > 0 && roll%2 == 0:
		x.put = globq.New(l, x.who, x.hand)
		x.hand, does = nil, x.put
	case roll%3 == 0:
		x.take = globq.NewTake(l, x.who, x.who, int(roll/6%4))
		does = x.take
	default:
		x.pull = globq.NewPull(l, x.who)
		does = x.pull
	}
	x.todo = []machine{lock.New(l, 0, x.who), does, lock.NewRelease(l, 0, x.who)}
}

// step does a step.
func (x *worker) step(l *layout.Layout, m *cell.Mem, roll uint64) {
	if len(x.todo) == 0 {
		x.begin(l, roll)
	}
	if x.todo[0].Step(m) {
		x.todo = x.todo[1:]
	}
	if len(x.todo) > 0 {
		return
	}
	for _, g := range []int{x.pull.G(), x.take.G()} {
		if g != api.None {
			x.hand = append(x.hand, g)
		}
	}
	x.put, x.pull, x.take = nil, nil, nil
	words, _ := ring.Words(l, m, x.who)
	for _, w := range words { // it empties its ring, so that all go on
		x.hand = append(x.hand, int(w-1))
	}
	m.Store(x.who, l.Proc(x.who, layout.Head), peek(m, l.Proc(x.who, layout.Tail)))
}

func peek(m *cell.Mem, at int) uint64 {
	w, _ := m.Peek(at)
	return w
}

// has are all that are in its hand.
func (x *worker) has() []int {
	has := slices.Concat(x.hand, x.put.Holds(), x.take.Holds())
	if g := x.pull.G(); g != api.None {
		has = append(has, g)
	}
	return has
}

// Promises 13.1 and 13.2: however many go on between one another, each with the lock, each goroutine is at each step in just one place: the queue, a ring, or a hand.
func TestEachInOnePlace(t *testing.T) {
	const many = 12
	l, m := layOf(t, api.Config{Procs: 3, Threads: 3, Gs: many})
	workers := []*worker{{who: 0, hand: rising(0, many)}, {who: 1}, {who: 2}}
	roll := uint64(11)
	for n := range 40000 {
		roll = roll*6364136223846793005 + 1442695040888963407
		workers[roll>>33%3].step(l, m, roll>>40)
		got, right := globq.List(l, m)
		for _, x := range workers {
			lie, is := ring.Gs(l, m, x.who)
			got, right = slices.Concat(got, lie, x.has()), right && is
		}
		slices.Sort(got)
		if !right || !slices.Equal(got, rising(0, many)) {
			t.Fatalf("step %d: %v, %v", n, got, right)
		}
	}
	if m.Bad() != 0 || peek(m, l.Ticket(0)) < 1000 {
		t.Errorf("bad %d, %d turns at the lock", m.Bad(), peek(m, l.Ticket(0)))
	}
}
