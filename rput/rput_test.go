package rput_test

import (
	"math"
	"slices"
	"testing"

	"turnspit/api"
	"turnspit/cell"
	"turnspit/globq"
	"turnspit/layout"
	"turnspit/lock"
	"turnspit/ring"
	"turnspit/rput"
)

const (
	procs   = 2
	threads = 4
	gs      = 400 // more than a ring has
	round   = 1 << 32
	given   = api.Half + 1 // how many a full ring gives, with the new one
)

// whos are threads at both ends, below 0 and beyond.
var whos = []int{0, 1, threads - 1, -1, threads, 1000, math.MaxInt}

// heads are where a ring may begin.
var heads = []uint64{0, 1, 100, 128, 129, 254, 255, 256, 1000, round - 256, round - 128, round - 127, round - 2, round - 1}

// lay is a layout, and its memory.
func lay(t *testing.T) (*layout.Layout, *cell.Mem) {
	t.Helper()
	l, e := layout.Of(api.Config{Procs: procs, Threads: threads, Gs: gs})
	if e != api.OK {
		t.Fatalf("layout: %v", e)
	}
	m, e := cell.New(l.Len())
	if e != api.OK {
		t.Fatalf("memory: %v", e)
	}
	return l, m
}

// lie lets words lie in a processor's ring, from Head on.
func lie(l *layout.Layout, m *cell.Mem, p int, head uint64, words []uint64) {
	m.Store(99, l.Proc(p, layout.Head), head)
	m.Store(99, l.Proc(p, layout.Tail), (head+uint64(len(words)))%round)
	for i, w := range words {
		m.Store(99, l.Ring(p, head+uint64(i)), w)
	}
}

// rising are so many goroutines, from first on; words are they as words.
func rising(first, n int) []int {
	list := make([]int, n)
	for i := range list {
		list[i] = first + i
	}
	return list
}

func words(gs []int) []uint64 {
	var list []uint64
	for _, g := range gs {
		list = append(list, uint64(g)+1)
	}
	return list
}

// act is an access that a step is to do.
type act struct {
	kind, at int
	old, w   uint64 // what a swap awaits; what is stored, or added
}

func load(at int) act              { return act{kind: api.AcLoad, at: at} }
func store(at int, w uint64) act   { return act{kind: api.AcStore, at: at, w: w} }
func swap(at int, o, w uint64) act { return act{kind: api.AcSwap, at: at, old: o, w: w} }
func add(at int, w uint64) act     { return act{kind: api.AcAdd, at: at, w: w} }

// by is the access, by who, as the memory is right now.
func (a act) by(m *cell.Mem, who int) api.Access {
	old, is := m.Peek(a.at)
	w := a.w
	switch a.kind {
	case api.AcAdd:
		w = (old + w) % round
	case api.AcSwap:
		is = is && old == a.old
	}
	return api.Access{Kind: a.kind, Who: who, At: a.at, Old: old, New: w, Done: is}
}

// step does a step that is to do just this access, and to be done, or not.
func step(t *testing.T, m *cell.Mem, x *rput.Put, who int, a act, done bool) {
	t.Helper()
	want, clock := a.by(m, who), m.Clock()
	if got := x.Step(m); got != done || x.Done() != done {
		t.Errorf("step: %v, Done %v, want %v", got, x.Done(), done)
	}
	if m.Clock() != clock+1 || m.Last() != want {
		t.Errorf("%d accesses, the last one %v, want %v", m.Clock()-clock, m.Last(), want)
	}
}

// rests does steps that are to do nothing, of a machine that is done, which holds nothing.
func rests(t *testing.T, m *cell.Mem, x *rput.Put, moved int) {
	t.Helper()
	clock := m.Clock()
	for range 3 {
		if !x.Step(m) || !x.Done() || m.Clock() != clock {
			t.Errorf("a step of what is done: Done %v, clock %d, want %d", x.Done(), m.Clock(), clock)
		}
		tells(t, x, moved)
	}
}

// tells holds what is in its hand, and how many moved, against what they should be.
func tells(t *testing.T, x *rput.Put, moved int, held ...int) {
	t.Helper()
	for range 2 {
		if got := x.Holds(); !slices.Equal(got, held) {
			t.Errorf("Holds: %v, want %v", got, held)
		}
		if got := x.Moved(); got != moved {
			t.Errorf("Moved: %d, want %d", got, moved)
		}
	}
}

// steps does steps that are to do these accesses, none of which ends it, with these in its hand from each on.
func steps(t *testing.T, m *cell.Mem, x *rput.Put, who, moved int, held []int, acts ...act) {
	t.Helper()
	for i, a := range acts {
		step(t, m, x, who, a, false)
		tells(t, x, moved, held...)
		if t.Failed() {
			t.Fatalf("step %d of %d", i, len(acts))
		}
	}
}

// all goes on with a machine until it is done.
func all(t *testing.T, m *cell.Mem, x interface{ Step(m *cell.Mem) bool }) {
	t.Helper()
	for n := 0; !x.Step(m); n++ {
		if n > 5000 {
			t.Fatalf("a machine that does not end")
		}
	}
}

// lays does the steps by which g comes into a ring that has a place, from the load of Head on.
func lays(t *testing.T, l *layout.Layout, m *cell.Mem, x *rput.Put, who, p, g int, tail uint64) {
	t.Helper()
	steps(t, m, x, who, 0, []int{g}, load(l.Proc(p, layout.Head)), load(l.Proc(p, layout.Tail)), store(l.Ring(p, tail), uint64(g)+1))
	step(t, m, x, who, store(l.Proc(p, layout.Tail), (tail+1)%round), true)
	rests(t, m, x, 0)
}

// gathers does the steps by which a full ring's first ones are loaded, from the load of Head on.
func gathers(t *testing.T, l *layout.Layout, m *cell.Mem, x *rput.Put, who, p, g int, head uint64) {
	t.Helper()
	steps(t, m, x, who, 0, []int{g}, load(l.Proc(p, layout.Head)), load(l.Proc(p, layout.Tail)))
	for i := range uint64(api.Half) {
		steps(t, m, x, who, 0, []int{g}, load(l.Ring(p, head+i)))
	}
}

// takes does the swap of Head that is done.
func takes(t *testing.T, l *layout.Layout, m *cell.Mem, x *rput.Put, who, p int, head uint64, moved []int) {
	t.Helper()
	steps(t, m, x, who, given, moved, swap(l.Proc(p, layout.Head), head, (head+api.Half)%round))
}

// moves does the steps from the lock on, which nobody has, with an empty queue, or one that ends at tail.
func moves(t *testing.T, l *layout.Layout, m *cell.Mem, x *rput.Put, who int, moved []int, tail int) {
	t.Helper()
	m.Store(99, l.Ticket(0), round-1)
	m.Store(99, l.Serving(0), round-1)
	steps(t, m, x, who, given, moved, add(l.Ticket(0), 1), load(l.Serving(0)), store(l.Owner(0), uint64(who)+1))
	puts(t, l, m, x, who, moved, tail)
}

// puts does the steps behind the lock.
func puts(t *testing.T, l *layout.Layout, m *cell.Mem, x *rput.Put, who int, moved []int, tail int) {
	t.Helper()
	for i, g := range moved {
		next := uint64(0)
		if i+1 < len(moved) {
			next = uint64(moved[i+1]) + 1
		}
		steps(t, m, x, who, given, moved, store(l.G(g, layout.GLink), next))
	}
	first := l.Word(layout.GlobHead)
	if tail != api.None {
		first = l.G(tail, layout.GLink)
	}
	steps(t, m, x, who, given, moved, load(l.Word(layout.GlobTail)))
	steps(t, m, x, who, given, nil,
		store(first, uint64(moved[0])+1), store(l.Word(layout.GlobTail), uint64(moved[len(moved)-1])+1), add(l.Word(layout.GlobSize), given),
		store(l.Owner(0), 0))
	step(t, m, x, who, add(l.Serving(0), 1), true)
	rests(t, m, x, given)
}

// has holds a ring, and the global queue, against what they should be.
func has(t *testing.T, l *layout.Layout, m *cell.Mem, p int, inRing, inQueue []int) {
	t.Helper()
	if got, right := ring.Gs(l, m, p); !right || !slices.Equal(got, inRing) {
		t.Errorf("the ring: %v, %v, want %v", got, right, inRing)
	}
	if got, right := globq.List(l, m); !right || !slices.Equal(got, inQueue) {
		t.Errorf("the queue: %v, %v, want %v", got, right, inQueue)
	}
}

// Promises 14.1 and 14.2: into a ring that has a place, access by access, wherever it begins; nothing else is touched.
func TestPut(t *testing.T) {
	for i, head := range heads {
		for _, n := range []int{0, 1, 2, 100, api.RingSize - 2, api.RingSize - 1} {
			for p := range procs {
				who, g := whos[(i+n)%len(whos)], 399-i
				l, m := lay(t)
				lie(l, m, p, head, words(rising(20, n)))
				before := m.Words()
				x := rput.New(l, who, p, g, false)
				if x.Done() {
					t.Errorf("done ahead of the first step")
				}
				tells(t, x, 0, g)
				tail := (head + uint64(n)) % round
				lays(t, l, m, x, who, p, g, tail)
				has(t, l, m, p, append(rising(20, n), g), nil)
				before[l.Ring(p, tail)], before[l.Proc(p, layout.Tail)] = uint64(g)+1, (tail+1)%round
				if !slices.Equal(m.Words(), before) || m.Bad() != 0 {
					t.Errorf("from %d on %d lay there: other words were changed; bad %d", head, n, m.Bad())
				}
			}
		}
	}
}

// Promises 14.1 and 14.2: a full ring gives Half, the oldest ones, and the new one behind them, access by access, wherever it begins.
func TestFullRing(t *testing.T) {
	for i, head := range heads {
		who, p, g := whos[i%len(whos)], i%procs, 399-i
		l, m := lay(t)
		lie(l, m, p, head, words(rising(20, api.RingSize)))
		moved := append(rising(20, api.Half), g)
		x := rput.New(l, who, p, g, false)
		tells(t, x, 0, g)
		gathers(t, l, m, x, who, p, g, head)
		takes(t, l, m, x, who, p, head, moved)
		has(t, l, m, p, rising(20+api.Half, api.Half), nil)
		moves(t, l, m, x, who, moved, api.None)
		has(t, l, m, p, rising(20+api.Half, api.Half), moved)
		size, _ := m.Peek(l.Word(layout.GlobSize))
		if head, _ := m.Peek(l.Proc(p, layout.Head)); head != (heads[i]+api.Half)%round || size != given || m.Bad() != 0 {
			t.Errorf("Head %d, GlobSize %d, bad %d", head, size, m.Bad())
		}
	}
}

// Promise 14.1: a full ring changes no words but Head, the GLinks and the words of the lock and the queue.
func TestFullRingAlone(t *testing.T) {
	l, m := lay(t)
	for at := range l.Len() {
		m.Store(99, at, 7)
	}
	for _, at := range []int{l.Word(layout.GlobHead), l.Word(layout.GlobTail), l.Word(layout.GlobSize), l.Owner(0)} {
		m.Store(99, at, 0)
	}
	lie(l, m, 1, round-7, words(rising(20, api.RingSize)))
	want := m.Words()
	all(t, m, rput.New(l, 2, 1, 300, false))
	want[l.Proc(1, layout.Head)] = api.Half - 7
	want[l.Ticket(0)], want[l.Serving(0)] = 8, 8
	want[l.Word(layout.GlobHead)], want[l.Word(layout.GlobTail)], want[l.Word(layout.GlobSize)] = 21, 301, given
	for g := 20; g < 20+api.Half; g++ {
		want[l.G(g, layout.GLink)] = uint64(g) + 2
	}
	want[l.G(19+api.Half, layout.GLink)], want[l.G(300, layout.GLink)] = 301, 0
	if got := m.Words(); !slices.Equal(got, want) {
		t.Errorf("words: %v, want %v", got, want)
	}
}

// Promise 14.1: what a full ring gives comes behind what lies in the global queue.
func TestFullRingBehind(t *testing.T) {
	l, m := lay(t)
	all(t, m, globq.New(l, 0, []int{5, 3}))
	lie(l, m, 0, 9, words(rising(20, api.RingSize)))
	x := rput.New(l, 1, 0, 4, false)
	moved := append(rising(20, api.Half), 4)
	gathers(t, l, m, x, 1, 0, 4, 9)
	takes(t, l, m, x, 1, 0, 9, moved)
	moves(t, l, m, x, 1, moved, 3)
	has(t, l, m, 0, rising(20+api.Half, api.Half), append([]int{5, 3}, moved...))
}

// Promise 14.1: where more than RingSize lie between, the ring is full likewise: the places go round.
func TestMoreThanRingSize(t *testing.T) {
	for _, head := range []uint64{0, 200, round - 1} {
		for _, many := range []uint64{257, 258, 300, 512, 1000, 1 << 31, round - 1} {
			l, m := lay(t)
			lie(l, m, 1, head, words(rising(20, api.RingSize)))
			m.Store(99, l.Proc(1, layout.Tail), (head+many)%round)
			x := rput.New(l, 3, 1, 4, false)
			moved := append(rising(20, api.Half), 4)
			gathers(t, l, m, x, 3, 1, 4, head)
			takes(t, l, m, x, 3, 1, head, moved)
			moves(t, l, m, x, 3, moved, api.None)
		}
	}
}

// Promise 14.1: Head and Tail that are 2^32 and more are what they leave, but the swap of Head awaits the whole word.
func TestBeyondRound(t *testing.T) {
	for _, x := range []struct{ head, tail uint64 }{{round + 7, 9}, {7, round + 9}, {1<<40 + 7, 1<<63 + 9}, {math.MaxUint64, round - 1}, {5, math.MaxUint64 - round + 6}, {8, round + 263}} {
		l, m := lay(t)
		m.Store(99, l.Proc(0, layout.Head), x.head)
		m.Store(99, l.Proc(0, layout.Tail), x.tail)
		lays(t, l, m, rput.New(l, 1, 0, 3, false), 1, 0, 3, x.tail)
	}
	for _, head := range []uint64{round + 7, 1<<40 + 200, math.MaxUint64} {
		l, m := lay(t)
		lie(l, m, 0, head, words(rising(20, api.RingSize)))
		x := rput.New(l, 1, 0, 3, false)
		moved := append(rising(20, api.Half), 3)
		gathers(t, l, m, x, 1, 0, 3, head)
		takes(t, l, m, x, 1, 0, head, moved)
		moves(t, l, m, x, 1, moved, api.None)
		if w, _ := m.Peek(l.Proc(0, layout.Head)); w != (head+api.Half)%round {
			t.Errorf("Head: %d", w)
		}
	}
}

// Promises 14.1 and 14.2: as the next one where there is none: two steps; the ring is not asked, full or not.
func TestNext(t *testing.T) {
	for _, n := range []int{0, 5, api.RingSize} {
		for _, who := range whos {
			for p := range procs {
				l, m := lay(t)
				lie(l, m, p, 9, words(rising(20, n)))
				before := m.Words()
				x := rput.New(l, who, p, 4, true)
				tells(t, x, 0, 4)
				steps(t, m, x, who, 0, []int{4}, load(l.Proc(p, layout.Next)))
				step(t, m, x, who, swap(l.Proc(p, layout.Next), 0, 5), true)
				rests(t, m, x, 0)
				before[l.Proc(p, layout.Next)] = 5
				if !slices.Equal(m.Words(), before) {
					t.Errorf("other words were changed")
				}
			}
		}
	}
}

// replaces does the steps by which g takes the place of the next one.
func replaces(t *testing.T, l *layout.Layout, m *cell.Mem, x *rput.Put, who, p, g, was int) {
	t.Helper()
	tells(t, x, 0, g)
	steps(t, m, x, who, 0, []int{g}, load(l.Proc(p, layout.Next)))
	steps(t, m, x, who, 0, []int{was}, swap(l.Proc(p, layout.Next), uint64(was)+1, uint64(g)+1))
}

// Promises 14.1 and 14.2: as the next one where there is one: that one goes into the ring, at its end, and is in the hand until it lies there.
func TestNextTakesThePlace(t *testing.T) {
	for _, who := range whos {
		for _, head := range heads {
			for _, n := range []int{0, 1, api.RingSize - 1} {
				l, m := lay(t)
				lie(l, m, 1, head, words(rising(20, n)))
				m.Store(99, l.Proc(1, layout.Next), 9)
				x := rput.New(l, who, 1, 4, true)
				replaces(t, l, m, x, who, 1, 4, 8)
				lays(t, l, m, x, who, 1, 8, (head+uint64(n))%round)
				has(t, l, m, 1, append(rising(20, n), 8, 4), nil)
			}
		}
	}
}

// Promises 14.1 and 14.2: where there is one, and the ring is full, that one goes to the global queue, behind the oldest ones.
func TestNextOfAFullRing(t *testing.T) {
	for _, head := range heads {
		l, m := lay(t)
		lie(l, m, 1, head, words(rising(20, api.RingSize)))
		m.Store(99, l.Proc(1, layout.Next), 9)
		x := rput.New(l, 2, 1, 4, true)
		moved := append(rising(20, api.Half), 8)
		replaces(t, l, m, x, 2, 1, 4, 8)
		gathers(t, l, m, x, 2, 1, 8, head)
		takes(t, l, m, x, 2, 1, head, moved)
		moves(t, l, m, x, 2, moved, api.None)
		has(t, l, m, 1, append(rising(20+api.Half, api.Half), 4), moved)
	}
}

// The chapter's example.
func TestExample(t *testing.T) {
	l, m := lay(t)
	x := rput.New(l, 0, 0, 6, true)
	if x.Step(m) || !x.Step(m) {
		t.Errorf("not two steps")
	}
	all(t, m, rput.New(l, 0, 0, 7, true))
	if got, next := ring.Words(l, m, 0); !slices.Equal(got, []uint64{7}) || next != 8 {
		t.Errorf("the ring: %v, Next %d", got, next)
	}
}

// Promises 14.1 and 14.2: a swap of Next that is not done, as another one stored between: it is loaded again, and goes by what it is then.
func TestNextIsStolen(t *testing.T) {
	l, m := lay(t)
	next := l.Proc(0, layout.Next)
	x := rput.New(l, 1, 0, 4, true)
	held := []int{4}
	steps(t, m, x, 1, 0, held, load(next))
	m.Store(9, next, 9)
	steps(t, m, x, 1, 0, held, swap(next, 0, 5), load(next))
	m.Store(9, next, 10)
	steps(t, m, x, 1, 0, held, swap(next, 9, 5), load(next))
	m.Store(9, next, 0)
	steps(t, m, x, 1, 0, held, swap(next, 10, 5), load(next))
	step(t, m, x, 1, swap(next, 0, 5), true)
	rests(t, m, x, 0)
	has(t, l, m, 0, []int{4}, nil)

	x = rput.New(l, 1, 0, 3, true)
	steps(t, m, x, 1, 0, []int{3}, load(next))
	m.Store(9, next, 0)
	steps(t, m, x, 1, 0, []int{3}, swap(next, 5, 4), load(next))
	m.Store(9, next, 7)
	steps(t, m, x, 1, 0, []int{3}, swap(next, 0, 4), load(next))
	steps(t, m, x, 1, 0, []int{6}, swap(next, 7, 4))
	m.Store(9, next, 0) // that is stolen; the one that it took the place of is in the hand
	lays(t, l, m, x, 1, 0, 6, 0)
	has(t, l, m, 0, []int{6}, nil)
}

// Promises 14.1 and 14.2: a swap of Head that is not done, as another one stored between: Head and Tail are loaded again; nothing moved.
func TestHeadIsStolen(t *testing.T) {
	l, m := lay(t)
	head, tail := l.Proc(1, layout.Head), l.Proc(1, layout.Tail)
	lie(l, m, 1, 9, words(rising(20, api.RingSize)))
	x := rput.New(l, 2, 1, 4, false)
	gathers(t, l, m, x, 2, 1, 4, 9)
	m.Store(9, head, 10) // one was stolen: there is a place
	steps(t, m, x, 2, 0, []int{4}, swap(head, 9, 9+api.Half))
	lays(t, l, m, x, 2, 1, 4, 9+api.RingSize)
	has(t, l, m, 1, append(rising(21, api.RingSize-1), 4), nil)

	x = rput.New(l, 2, 1, 5, false)
	gathers(t, l, m, x, 2, 1, 5, 10)
	m.Store(9, head, 50) // and the ring is filled up again, with others
	m.Store(9, tail, 50+api.RingSize)
	for i := range uint64(api.RingSize) {
		m.Store(9, l.Ring(1, 50+i), 101+i)
	}
	steps(t, m, x, 2, 0, []int{5}, swap(head, 10, 10+api.Half))
	gathers(t, l, m, x, 2, 1, 5, 50)
	m.Store(9, tail, 70) // Tail is not asked any more
	moved := append(rising(100, api.Half), 5)
	takes(t, l, m, x, 2, 1, 50, moved)
	moves(t, l, m, x, 2, moved, api.None)
}

// Promise 14.1: what others store between two loads is seen as it was loaded.
func TestBetween(t *testing.T) {
	l, m := lay(t)
	head, tail := l.Proc(0, layout.Head), l.Proc(0, layout.Tail)
	x := rput.New(l, 1, 0, 4, false)
	held := []int{4}
	m.Store(9, head, 5)
	steps(t, m, x, 1, 0, held, load(head))
	m.Store(9, head, 90)
	m.Store(9, tail, 5+api.RingSize-1)
	steps(t, m, x, 1, 0, held, load(tail))
	m.Store(9, tail, 5+api.RingSize)
	steps(t, m, x, 1, 0, held, store(l.Ring(0, 4), 5))
	step(t, m, x, 1, store(tail, 5+api.RingSize), true)
	rests(t, m, x, 0)

	lie(l, m, 0, 0, words(rising(20, api.RingSize)))
	x = rput.New(l, 1, 0, 4, false)
	steps(t, m, x, 1, 0, held, load(head))
	m.Store(9, head, 7)
	steps(t, m, x, 1, 0, held, load(tail), load(l.Ring(0, 0)))
	m.Store(9, l.Ring(0, 0), 300) // behind its load
	m.Store(9, l.Ring(0, 1), 301) // ahead of its load
	m.Store(9, head, 0)
	for i := uint64(1); i < api.Half; i++ {
		steps(t, m, x, 1, 0, held, load(l.Ring(0, i)))
	}
	moved := append(append([]int{20, 300}, rising(22, api.Half-2)...), 4)
	takes(t, l, m, x, 1, 0, 0, moved)
	m.Store(9, l.Ring(0, 2), 77)
	m.Store(9, head, 3)
	moves(t, l, m, x, 1, moved, api.None)
}

// Promises 14.1 and 14.2: who has to wait for the scheduler's lock has all in its hand, and touches nothing, until it has it; the goroutines' lock has no part in it.
func TestWaits(t *testing.T) {
	l, m := lay(t)
	all(t, m, lock.New(l, 1, 0))
	all(t, m, lock.New(l, 0, 3))
	lie(l, m, 0, 9, words(rising(20, api.RingSize)))
	x := rput.New(l, 1, 0, 4, false)
	moved := append(rising(20, api.Half), 4)
	gathers(t, l, m, x, 1, 0, 4, 9)
	takes(t, l, m, x, 1, 0, 9, moved)
	steps(t, m, x, 1, given, moved, add(l.Ticket(0), 1))
	for range 20 {
		steps(t, m, x, 1, given, moved, load(l.Serving(0)))
	}
	has(t, l, m, 0, rising(20+api.Half, api.Half), nil)
	all(t, m, globq.New(l, 3, []int{2})) // by the one that has it
	all(t, m, lock.NewRelease(l, 0, 3))
	steps(t, m, x, 1, given, moved, load(l.Serving(0)), store(l.Owner(0), 2))
	puts(t, l, m, x, 1, moved, 2)
	has(t, l, m, 0, rising(20+api.Half, api.Half), append([]int{2}, moved...))
	if got := m.Words()[3:6]; !slices.Equal(got, []uint64{1, 0, 1}) {
		t.Errorf("the goroutines' lock: %v", got)
	}
}

// Promises 14.1 and 14.2: a full ring's words that are no goroutines are given as they are (a word 0 is None), and have no GLink.
func TestFullRingOfNone(t *testing.T) {
	wrong := []uint64{0, gs + 1, api.MaxGs + 1, 1 << 32, 1<<32 + 1, 1 << 63, math.MaxUint64}
	l, m := lay(t)
	list := words(rising(20, api.RingSize))
	copy(list, wrong)
	lie(l, m, 1, 9, list)
	x := rput.New(l, 2, 1, 4, false)
	var moved []int
	for _, w := range list[:api.Half] {
		moved = append(moved, int(w-1))
	}
	moved = append(moved, 4)
	gathers(t, l, m, x, 2, 1, 4, 9)
	takes(t, l, m, x, 2, 1, 9, moved)
	if x.Holds()[0] != api.None {
		t.Errorf("a word 0: %d", x.Holds()[0])
	}
	moves(t, l, m, x, 2, moved, api.None)
	if m.Bad() != len(wrong) {
		t.Errorf("bad: %d", m.Bad())
	}
}

// Promises 14.1 and 14.2: a Next that is no goroutine goes into the ring as it is.
func TestNextOfNone(t *testing.T) {
	for _, w := range []uint64{gs + 1, 1 << 32, 1<<32 + 1, 1 << 63, math.MaxUint64} {
		l, m := lay(t)
		m.Store(99, l.Proc(0, layout.Next), w)
		x := rput.New(l, 1, 0, 4, true)
		replaces(t, l, m, x, 1, 0, 4, int(w-1))
		lays(t, l, m, x, 1, 0, int(w-1), 0)
		if got, next := ring.Words(l, m, 0); !slices.Equal(got, []uint64{w}) || next != 5 {
			t.Errorf("the ring: %v, Next %d", got, next)
		}
	}
}

// Promise 14.1: a goroutine that there is not is put as its word says.
func TestPutOfNoSuch(t *testing.T) {
	for _, g := range []int{math.MinInt, -2, -1, gs, api.MaxGs, math.MaxInt} {
		l, m := lay(t)
		x := rput.New(l, 1, 0, g, false)
		tells(t, x, 0, g)
		lays(t, l, m, x, 1, 0, g, 0)
		x = rput.New(l, 1, 0, g, true)
		steps(t, m, x, 1, 0, []int{g}, load(l.Proc(0, layout.Next)))
		step(t, m, x, 1, swap(l.Proc(0, layout.Next), 0, uint64(g)+1), true)
		rests(t, m, x, 0)
		if m.Bad() != 0 {
			t.Errorf("put of %d: bad %d", g, m.Bad())
		}
	}
}

// Promise 14.1: of a processor that there is not all accesses are bad: the goroutine lies nowhere, and as the next one it is tried again and again.
func TestNoSuchProc(t *testing.T) {
	for _, p := range []int{math.MinInt, -2, -1, procs, procs + 1, math.MaxInt} {
		l, m := lay(t)
		before := m.Words()
		x := rput.New(l, 1, p, 4, false)
		lays(t, l, m, x, 1, p, 4, 0)
		x = rput.New(l, 1, p, 4, true)
		for range 20 {
			steps(t, m, x, 1, 0, []int{4}, load(api.None), swap(api.None, 0, 5))
		}
		if !slices.Equal(m.Words(), before) || m.Bad() != 44 {
			t.Errorf("processor %d: bad %d, or words were changed", p, m.Bad())
		}
	}
}

// R3: an answer that is changed changes nothing.
func TestAnswersAreOwn(t *testing.T) {
	l, m := lay(t)
	lie(l, m, 0, 0, words(rising(20, api.RingSize)))
	x := rput.New(l, 1, 0, 4, false)
	x.Holds()[0] = 77
	gathers(t, l, m, x, 1, 0, 4, 0)
	moved := append(rising(20, api.Half), 4)
	takes(t, l, m, x, 1, 0, 0, moved)
	got := x.Holds()
	clear(got)
	tells(t, x, given, moved...)
	moves(t, l, m, x, 1, moved, api.None)
	has(t, l, m, 0, rising(20+api.Half, api.Half), moved)
}

// R1: no machine is done, its steps do nothing, and it has nothing.
func TestNoMachine(t *testing.T) {
	_, m := lay(t)
	rests(t, m, nil, 0)
	rests(t, m, &rput.Put{}, 0)
}

// Machines without a memory, or without a layout, do not panic.
func TestNoMemoryNoLayout(t *testing.T) {
	l, m := lay(t)
	for _, next := range []bool{false, true} {
		x := rput.New(l, 0, 0, 4, next)
		for range 5 {
			if x.Step(nil) {
				t.Errorf("done without a memory")
			}
		}
		tells(t, x, 0, 4)
		y := rput.New(nil, 0, 0, 4, next)
		for range 20 {
			y.Step(m)
			y.Holds()
			y.Moved()
		}
	}
	if slices.ContainsFunc(m.Words(), func(w uint64) bool { return w != 0 }) {
		t.Errorf("words of a memory of another layout: %v", m.Words())
	}
}
