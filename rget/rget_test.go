package rget_test

import (
	"math"
	"slices"
	"testing"

	"turnspit/api"
	"turnspit/cell"
	"turnspit/layout"
	"turnspit/rget"
	"turnspit/ring"
)

const (
	procs   = 3
	threads = 4
	gs      = 400 // more than a ring has
	round   = 1 << 32
)

var (
	// whos are threads at both ends, below 0 and beyond.
	whos = []int{0, 1, threads - 1, -1, threads, 1000, math.MinInt, math.MaxInt}

	// heads are where a ring may begin.
	heads = []uint64{0, 1, 100, 254, 255, 256, 257, 1000, round - 256, round - 255, round - 2, round - 1}

	// wrong are words that are goroutines of no config.
	wrong = []uint64{gs + 1, api.MaxGs + 1, 1 << 32, 1<<32 + 1, 1 << 63, 1<<63 + 1, math.MaxUint64}
)

// lay is a layout, and its memory, all of whose words are some that no ring should give.
func lay(t *testing.T) (*layout.Layout, *cell.Mem) {
	t.Helper()
	l, e := layout.Of(api.Config{Procs: procs, Threads: threads, Gs: gs})
	if e != api.OK {
		t.Fatalf("layout: %v", e)
	}
	m, e := cell.New(l.Len())
	if e != api.OK {
		t.Fatalf("memory: %v", e)
	}
	for at := range l.Len() {
		m.Store(99, at, 777)
	}
	for p := range procs {
		lie(l, m, p, 7, nil, 0)
	}
	return l, m
}

// lie lets words lie in a processor's ring, from Head on, with Next beside them.
func lie(l *layout.Layout, m *cell.Mem, p int, head uint64, words []uint64, next uint64) {
	m.Store(99, l.Proc(p, layout.Head), head)
	m.Store(99, l.Proc(p, layout.Tail), (head+uint64(len(words)))%round)
	m.Store(99, l.Proc(p, layout.Next), next)
	for i, w := range words {
		m.Store(99, l.Ring(p, head+uint64(i)), w)
	}
}

// rising are so many words, from first on.
func rising(first uint64, n int) []uint64 {
	list := make([]uint64, n)
	for i := range list {
		list[i] = first + uint64(i)
	}
	return list
}

// act is an access that a step is to do.
type act struct {
	kind, at int
	old, w   uint64 // what a swap awaits; what comes there
}

func load(at int) act              { return act{kind: api.AcLoad, at: at} }
func swap(at int, o, w uint64) act { return act{kind: api.AcSwap, at: at, old: o, w: w} }

// by is the access, by who, as the memory is right now.
func (a act) by(m *cell.Mem, who int) api.Access {
	old, is := m.Peek(a.at)
	return api.Access{Kind: a.kind, Who: who, At: a.at, Old: old, New: a.w, Done: is && (a.kind != api.AcSwap || old == a.old)}
}

// step does a step that is to do just this access, and to be done, or not.
func step(t *testing.T, m *cell.Mem, x *rget.Get, who int, a act, done bool) {
	t.Helper()
	want, clock := a.by(m, who), m.Clock()
	if got := x.Step(m); got != done || x.Done() != done {
		t.Errorf("step: %v, Done %v, want %v", got, x.Done(), done)
	}
	if m.Clock() != clock+1 || m.Last() != want {
		t.Errorf("%d accesses, the last one %v, want %v", m.Clock()-clock, m.Last(), want)
	}
}

// tells holds what is told of a machine against what it should be.
func tells(t *testing.T, x *rget.Get, g int, inherits bool) {
	t.Helper()
	for range 2 {
		if x.G() != g || x.Inherits() != inherits {
			t.Errorf("G %d, Inherits %v, want %d, %v", x.G(), x.Inherits(), g, inherits)
		}
	}
}

// goes does steps that are to do these accesses, none of which ends it, or gets anything.
func goes(t *testing.T, m *cell.Mem, x *rget.Get, who int, acts ...act) {
	t.Helper()
	if x.Done() {
		t.Errorf("done ahead of a step")
	}
	tells(t, x, api.None, false)
	for i, a := range acts {
		step(t, m, x, who, a, false)
		tells(t, x, api.None, false)
		if t.Failed() {
			t.Fatalf("step %d of %d", i, len(acts))
		}
	}
}

// ends does the step that ends it, and then some that do nothing.
func ends(t *testing.T, m *cell.Mem, x *rget.Get, who int, a act, g int, inherits bool) {
	t.Helper()
	step(t, m, x, who, a, true)
	rests(t, m, x, g, inherits)
	if t.Failed() {
		t.Fatalf("the last step")
	}
}

// rests does steps that are to do nothing, of a machine that is done.
func rests(t *testing.T, m *cell.Mem, x *rget.Get, g int, inherits bool) {
	t.Helper()
	clock := m.Clock()
	for range 3 {
		tells(t, x, g, inherits)
		if !x.Step(m) || !x.Done() || m.Clock() != clock {
			t.Errorf("a step of what is done: Done %v, clock %d, want %d", x.Done(), m.Clock(), clock)
		}
	}
}

// all goes on with a machine until it is done: how many accesses that took.
func all(t *testing.T, m *cell.Mem, x interface{ Step(m *cell.Mem) bool }) int {
	t.Helper()
	clock := m.Clock()
	for n := 0; !x.Step(m); n++ {
		if n > 5000 {
			t.Fatalf("a machine that does not end")
		}
	}
	return m.Clock() - clock
}

// looks are the loads of Head and Tail of a processor.
func looks(l *layout.Layout, p int) []act {
	return []act{load(l.Proc(p, layout.Head)), load(l.Proc(p, layout.Tail))}
}

// ahead are the accesses of a Get that come ahead of the ring: of one not afresh, where there is no next one.
func ahead(l *layout.Layout, p int, fresh bool) []act {
	if fresh {
		return nil
	}
	return []act{load(l.Proc(p, layout.Next))}
}

// first gets the first one of a ring, from the load of Head on.
func first(t *testing.T, l *layout.Layout, m *cell.Mem, x *rget.Get, who, p int, head uint64, g int) {
	t.Helper()
	goes(t, m, x, who, looks(l, p)...)
	goes(t, m, x, who, load(l.Ring(p, head)))
	ends(t, m, x, who, swap(l.Proc(p, layout.Head), head, (head+1)%round), g, false)
}

// changed holds a memory's words against those that it had before, but for these.
func changed(t *testing.T, m *cell.Mem, before []uint64, but map[int]uint64) {
	t.Helper()
	for at, w := range but {
		before[at] = w
	}
	if !slices.Equal(m.Words(), before) || m.Bad() != 0 {
		t.Errorf("other words were changed; bad %d", m.Bad())
	}
}

// Promise 15.1: of a ring that has some, afresh or not, where there is no next one, the first one is got, access by access, wherever it lies; it does not inherit.
func TestRing(t *testing.T) {
	for i, head := range heads {
		for _, n := range []int{1, 2, 5, 100, api.RingSize - 1, api.RingSize} {
			for p := range procs {
				for _, fresh := range []bool{false, true} {
					who := whos[(i+n)%len(whos)]
					l, m := lay(t)
					lie(l, m, p, head, rising(21, n), 0)
					before := m.Words()
					x := rget.New(l, who, p, fresh)
					goes(t, m, x, who, ahead(l, p, fresh)...)
					first(t, l, m, x, who, p, head, 20)
					changed(t, m, before, map[int]uint64{l.Proc(p, layout.Head): (head + 1) % round})
				}
			}
		}
	}
}

// Promise 15.1: not afresh the next one is got, by two steps, and inherits; the ring is not asked, whatever lies there.
func TestNext(t *testing.T) {
	for _, who := range whos {
		for _, n := range []int{0, 1, 5, api.RingSize} {
			for _, g := range []int{0, 4, gs - 1} {
				for p := range procs {
					l, m := lay(t)
					lie(l, m, p, 9, rising(21, n), uint64(g)+1)
					before := m.Words()
					x := rget.New(l, who, p, false)
					goes(t, m, x, who, load(l.Proc(p, layout.Next)))
					ends(t, m, x, who, swap(l.Proc(p, layout.Next), uint64(g)+1, 0), g, true)
					changed(t, m, before, map[int]uint64{l.Proc(p, layout.Next): 0})
				}
			}
		}
	}
}

// Promise 15.1: afresh the ring's first one is got, and the next one, where there is one, is not asked for.
func TestRingAheadOfNext(t *testing.T) {
	for _, who := range whos {
		for _, n := range []int{1, 5, api.RingSize} {
			for p := range procs {
				l, m := lay(t)
				lie(l, m, p, round-1, rising(21, n), 5)
				before := m.Words()
				first(t, l, m, rget.New(l, who, p, true), who, p, round-1, 20)
				changed(t, m, before, map[int]uint64{l.Proc(p, layout.Head): 0})
			}
		}
	}
}

// Promise 15.1: afresh, of a ring that is empty, the next one is got, and does not inherit.
func TestNextAfresh(t *testing.T) {
	for i, head := range heads {
		for _, g := range []int{0, 4, gs - 1} {
			for p := range procs {
				who := whos[i%len(whos)]
				l, m := lay(t)
				lie(l, m, p, head, nil, uint64(g)+1)
				before := m.Words()
				x := rget.New(l, who, p, true)
				goes(t, m, x, who, looks(l, p)...)
				goes(t, m, x, who, load(l.Proc(p, layout.Next)))
				ends(t, m, x, who, swap(l.Proc(p, layout.Next), uint64(g)+1, 0), g, false)
				changed(t, m, before, map[int]uint64{l.Proc(p, layout.Next): 0})
			}
		}
	}
}

// Promise 15.1: of a ring that is empty, without a next one, there is none, afresh or not, by three steps.
func TestNone(t *testing.T) {
	for _, head := range heads {
		for _, who := range whos {
			l, m := lay(t)
			lie(l, m, 1, head, nil, 0)
			before := m.Words()
			x := rget.New(l, who, 1, false)
			goes(t, m, x, who, load(l.Proc(1, layout.Next)), load(l.Proc(1, layout.Head)))
			ends(t, m, x, who, load(l.Proc(1, layout.Tail)), api.None, false)
			x = rget.New(l, who, 1, true)
			goes(t, m, x, who, looks(l, 1)...)
			ends(t, m, x, who, load(l.Proc(1, layout.Next)), api.None, false)
			changed(t, m, before, nil)
		}
	}
}

// The chapter's example.
func TestExample(t *testing.T) {
	l, m := lay(t)
	for _, x := range []struct {
		fresh bool
		want  []int
	}{{false, []int{3, 1, 2, api.None, api.None}}, {true, []int{1, 2, 3, api.None, api.None}}} {
		lie(l, m, 0, 50, []uint64{2, 3}, 4)
		for i, g := range x.want {
			y := rget.New(l, 0, 0, x.fresh)
			all(t, m, y)
			tells(t, y, g, i == 0 && !x.fresh)
		}
	}
}

// Promise 15.1: a swap of Next that is not done, as another one stored between: not afresh it goes on with the ring, and Next is not asked again, whatever it is then.
func TestNextIsStolen(t *testing.T) {
	for _, between := range []uint64{0, 6, gs, math.MaxUint64} {
		for _, n := range []int{0, 1, 5, api.RingSize} {
			l, m := lay(t)
			next := l.Proc(2, layout.Next)
			lie(l, m, 2, 200, rising(21, n), 5)
			x := rget.New(l, 3, 2, false)
			goes(t, m, x, 3, load(next))
			m.Store(9, next, between)
			goes(t, m, x, 3, swap(next, 5, 0))
			before := m.Words()
			if n > 0 {
				first(t, l, m, x, 3, 2, 200, 20)
				changed(t, m, before, map[int]uint64{l.Proc(2, layout.Head): 201})
				continue
			}
			goes(t, m, x, 3, load(l.Proc(2, layout.Head)))
			ends(t, m, x, 3, load(l.Proc(2, layout.Tail)), api.None, false)
			changed(t, m, before, nil)
		}
	}
}

// Promise 15.1: a swap of Next that is not done: afresh there is none, whatever is there then.
func TestNextIsStolenAfresh(t *testing.T) {
	for _, between := range []uint64{0, 6, gs, math.MaxUint64} {
		l, m := lay(t)
		next := l.Proc(2, layout.Next)
		lie(l, m, 2, 200, nil, 5)
		x := rget.New(l, 3, 2, true)
		goes(t, m, x, 3, looks(l, 2)...)
		goes(t, m, x, 3, load(next))
		lie(l, m, 2, 200, rising(21, 3), between)
		before := m.Words()
		ends(t, m, x, 3, swap(next, 5, 0), api.None, false)
		changed(t, m, before, nil)
	}
}

// Promise 15.1: a swap of Next is done, if it is what was loaded, though it was another one between.
func TestNextIsBack(t *testing.T) {
	for _, fresh := range []bool{false, true} {
		l, m := lay(t)
		next := l.Proc(0, layout.Next)
		lie(l, m, 0, 200, nil, 5)
		x := rget.New(l, 1, 0, fresh)
		if fresh {
			goes(t, m, x, 1, looks(l, 0)...)
		}
		goes(t, m, x, 1, load(next))
		m.Store(9, next, 0)
		m.Store(9, next, 5)
		ends(t, m, x, 1, swap(next, 5, 0), 4, !fresh)
	}
}

// Promise 15.1: a swap of Head that is not done, as another one stored between: Head and Tail are loaded again, as often as it takes; Next is not asked.
func TestHeadIsStolen(t *testing.T) {
	for _, fresh := range []bool{false, true} {
		l, m := lay(t)
		head, next := l.Proc(1, layout.Head), l.Proc(1, layout.Next)
		lie(l, m, 1, round-3, rising(21, 100), 0)
		x := rget.New(l, 2, 1, fresh)
		goes(t, m, x, 2, ahead(l, 1, fresh)...)
		m.Store(9, next, 6) // behind its load, or ahead of the ring's end: it is not asked for
		was := uint64(round - 3)
		for i := range uint64(20) {
			goes(t, m, x, 2, looks(l, 1)...)
			goes(t, m, x, 2, load(l.Ring(1, was)))
			is := (round - 3 + 2*(i+1)) % round
			m.Store(9, head, is) // two were stolen
			goes(t, m, x, 2, swap(head, was, (was+1)%round))
			was = is
		}
		before := m.Words()
		first(t, l, m, x, 2, 1, 37, 60)
		changed(t, m, before, map[int]uint64{head: 38})
	}
}

// Promise 15.1: where the others are stolen meanwhile there is none; afresh the next one is looked at then, and does not inherit.
func TestAllAreStolen(t *testing.T) {
	for _, fresh := range []bool{false, true} {
		for _, next := range []uint64{0, 6} {
			l, m := lay(t)
			lie(l, m, 0, 255, rising(21, 1), 0)
			x := rget.New(l, 0, 0, fresh)
			goes(t, m, x, 0, ahead(l, 0, fresh)...)
			goes(t, m, x, 0, looks(l, 0)...)
			goes(t, m, x, 0, load(l.Ring(0, 255)))
			m.Store(9, l.Proc(0, layout.Head), 256)
			m.Store(9, l.Proc(0, layout.Next), next)
			goes(t, m, x, 0, swap(l.Proc(0, layout.Head), 255, 256), load(l.Proc(0, layout.Head)))
			switch {
			case !fresh:
				ends(t, m, x, 0, load(l.Proc(0, layout.Tail)), api.None, false)
			case next == 0:
				goes(t, m, x, 0, load(l.Proc(0, layout.Tail)))
				ends(t, m, x, 0, load(l.Proc(0, layout.Next)), api.None, false)
			default:
				goes(t, m, x, 0, load(l.Proc(0, layout.Tail)), load(l.Proc(0, layout.Next)))
				ends(t, m, x, 0, swap(l.Proc(0, layout.Next), 6, 0), 5, false)
			}
		}
	}
}

// Promise 15.1: what others store between two loads is seen as it was loaded.
func TestBetween(t *testing.T) {
	l, m := lay(t)
	head, tail := l.Proc(0, layout.Head), l.Proc(0, layout.Tail)
	lie(l, m, 0, 30, nil, 0)
	x := rget.New(l, 1, 0, true)
	goes(t, m, x, 1, load(head))
	m.Store(9, head, 90)
	m.Store(9, tail, 33) // behind the load of Head, ahead of that of Tail
	goes(t, m, x, 1, load(tail))
	m.Store(9, tail, 30)
	m.Store(9, l.Ring(0, 30), 8) // ahead of its load
	goes(t, m, x, 1, load(l.Ring(0, 30)))
	m.Store(9, l.Ring(0, 30), 9) // behind it
	m.Store(9, head, 30)
	ends(t, m, x, 1, swap(head, 30, 31), 7, false)
	m.Store(9, l.Ring(0, 30), 10)
	rests(t, m, x, 7, false)

	lie(l, m, 0, 30, rising(21, 3), 0)
	x = rget.New(l, 1, 0, true)
	goes(t, m, x, 1, load(head))
	m.Store(9, tail, 30) // none lie between then, though some lie there now
	goes(t, m, x, 1, load(tail))
	m.Store(9, tail, 33)
	m.Store(9, l.Proc(0, layout.Next), 3)
	goes(t, m, x, 1, load(l.Proc(0, layout.Next)))
	ends(t, m, x, 1, swap(l.Proc(0, layout.Next), 3, 0), 2, false)
}

// Promise 15.1: where more than RingSize lie between, one is got likewise: the places go round.
func TestMoreThanRingSize(t *testing.T) {
	for _, head := range []uint64{0, 200, round - 1} {
		for _, many := range []uint64{257, 258, 300, 512, 1000, 1 << 31, round - 256, round - 1} {
			for _, fresh := range []bool{false, true} {
				l, m := lay(t)
				lie(l, m, 1, head, rising(21, api.RingSize), 0)
				m.Store(99, l.Proc(1, layout.Tail), (head+many)%round)
				x := rget.New(l, 0, 1, fresh)
				goes(t, m, x, 0, ahead(l, 1, fresh)...)
				first(t, l, m, x, 0, 1, head, 20)
			}
		}
	}
}

// Promise 15.1: Head and Tail that are 2^32 and more are what they leave, but the swap of Head awaits the whole word.
func TestBeyondRound(t *testing.T) {
	for _, x := range []struct{ head, tail uint64 }{{round + 7, 9}, {7, round + 9}, {1<<40 + 7, 1<<63 + 9}, {math.MaxUint64, 3}, {math.MaxUint64 - 1, math.MaxUint64}, {5, math.MaxUint64}} {
		l, m := lay(t)
		m.Store(99, l.Proc(1, layout.Head), x.head)
		m.Store(99, l.Proc(1, layout.Tail), x.tail)
		m.Store(99, l.Ring(1, x.head), 50)
		first(t, l, m, rget.New(l, 0, 1, true), 0, 1, x.head, 49)
		if w, _ := m.Peek(l.Proc(1, layout.Head)); w != (x.head+1)%round {
			t.Errorf("Head: %d", w)
		}
	}
	for _, x := range []struct{ head, tail uint64 }{{round + 7, 7}, {7, round + 7}, {1<<40 + 7, 1<<63 + 7}, {math.MaxUint64, round - 1}} {
		l, m := lay(t)
		m.Store(99, l.Proc(1, layout.Head), x.head)
		m.Store(99, l.Proc(1, layout.Tail), x.tail)
		y := rget.New(l, 0, 1, true)
		goes(t, m, y, 0, looks(l, 1)...)
		ends(t, m, y, 0, load(l.Proc(1, layout.Next)), api.None, false)
	}
}

// Promise 15.1: words that are no goroutines are got as they are; a word 0 in the ring is none, though Head goes on behind it.
func TestNoSuch(t *testing.T) {
	for _, w := range wrong {
		l, m := lay(t)
		next := l.Proc(1, layout.Next)
		lie(l, m, 1, 3, []uint64{w}, w)
		x := rget.New(l, 0, 1, false)
		goes(t, m, x, 0, load(next))
		ends(t, m, x, 0, swap(next, w, 0), int(w-1), true)
		first(t, l, m, rget.New(l, 0, 1, true), 0, 1, 3, int(w-1))
		lie(l, m, 1, 3, nil, w)
		x = rget.New(l, 0, 1, true)
		goes(t, m, x, 0, looks(l, 1)...)
		goes(t, m, x, 0, load(next))
		ends(t, m, x, 0, swap(next, w, 0), int(w-1), false)
	}
	for _, fresh := range []bool{false, true} {
		l, m := lay(t)
		lie(l, m, 1, 3, []uint64{0, 5}, 0)
		x := rget.New(l, 0, 1, fresh)
		goes(t, m, x, 0, ahead(l, 1, fresh)...)
		first(t, l, m, x, 0, 1, 3, api.None)
		x = rget.New(l, 0, 1, fresh)
		goes(t, m, x, 0, ahead(l, 1, fresh)...)
		first(t, l, m, x, 0, 1, 4, 4)
	}
}

// Promise 15.1: of a processor that there is not all accesses are bad, and there is none.
func TestNoSuchProc(t *testing.T) {
	for _, p := range []int{math.MinInt, -2, -1, procs, procs + 1, api.MaxProcs, math.MaxInt} {
		l, m := lay(t)
		before := m.Words()
		for i, fresh := range []bool{false, true} {
			x := rget.New(l, 1, p, fresh)
			goes(t, m, x, 1, load(api.None), load(api.None))
			ends(t, m, x, 1, load(api.None), api.None, false)
			if m.Bad() != 3*(i+1) || !slices.Equal(m.Words(), before) {
				t.Errorf("processor %d: bad %d, or words were changed", p, m.Bad())
			}
		}
	}
}

// Promise 15.1: other processors' rings are not asked for, and what is got of one leaves the others.
func TestOthers(t *testing.T) {
	l, m := lay(t)
	lie(l, m, 0, 3, rising(1, 9), 30)
	lie(l, m, 2, 8, rising(50, 9), 31)
	for _, fresh := range []bool{false, true} {
		x := rget.New(l, 0, 1, fresh)
		if n := all(t, m, x); n != 3 {
			t.Errorf("%d accesses", n)
		}
		tells(t, x, api.None, false)
	}
	for p, want := range map[int][]uint64{0: rising(1, 9), 1: {}, 2: rising(50, 9)} {
		if got, _ := ring.Words(l, m, p); !slices.Equal(got, want) {
			t.Errorf("the ring of %d: %v", p, got)
		}
	}
}

// R1: no machine is done, its steps do nothing, and it has nothing.
func TestNoMachine(t *testing.T) {
	_, m := lay(t)
	rests(t, m, nil, api.None, false)
	rests(t, m, &rget.Get{}, api.None, false)
}

// Machines without a memory, or without a layout, do not panic, and get nothing.
func TestNoMemoryNoLayout(t *testing.T) {
	l, m := lay(t)
	before := m.Words()
	for _, fresh := range []bool{false, true} {
		x, y := rget.New(l, 0, 0, fresh), rget.New(nil, 0, 0, fresh)
		for range 20 {
			x.Step(nil)
			y.Step(m)
			tells(t, x, api.None, false)
			tells(t, y, api.None, false)
		}
	}
	if !slices.Equal(m.Words(), before) {
		t.Errorf("words of a memory of another layout were changed")
	}
}
