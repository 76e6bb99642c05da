package ring_test

import (
	"math"
	"slices"
	"testing"

	"turnspit/api"
	"turnspit/cell"
	"turnspit/layout"
	"turnspit/ring"
)

const (
	procs = 3
	gs    = 300 // more than a ring has
	round = 1 << 32
)

// nowhere are processors that there are not.
var nowhere = []int{math.MinInt, -2, -1, procs, procs + 1, math.MaxInt}

// lay is a layout, and its memory.
func lay(t *testing.T) (*layout.Layout, *cell.Mem) {
	t.Helper()
	l, e := layout.Of(api.Config{Procs: procs, Threads: procs, Gs: gs})
	if e != api.OK {
		t.Fatalf("layout: %v", e)
	}
	m, e := cell.New(l.Len())
	if e != api.OK {
		t.Fatalf("memory: %v", e)
	}
	return l, m
}

// set sets a processor's Head, Tail and Next.
func set(l *layout.Layout, m *cell.Mem, p int, head, tail, next uint64) {
	m.Store(99, l.Proc(p, layout.Head), head)
	m.Store(99, l.Proc(p, layout.Tail), tail)
	m.Store(99, l.Proc(p, layout.Next), next)
}

// lie lets words lie in a processor's ring, from Head on, with Next beside them.
func lie(l *layout.Layout, m *cell.Mem, p int, head uint64, words []uint64, next uint64) {
	set(l, m, p, head, (head+uint64(len(words)))%round, next)
	for i, w := range words {
		m.Store(99, l.Ring(p, head+uint64(i)), w)
	}
}

// rising are so many words, from 1 on.
func rising(n int) []uint64 {
	words := make([]uint64, n)
	for i := range words {
		words[i] = uint64(i + 1)
	}
	return words
}

// has holds what Words and Empty tell of a processor's ring against what they should; neither is an access.
func has(t *testing.T, l *layout.Layout, m *cell.Mem, p int, want []uint64, next uint64) {
	t.Helper()
	clock := m.Clock()
	if got, n := ring.Words(l, m, p); !slices.Equal(got, want) || n != next {
		t.Errorf("Words(%d): %v, %d, want %v, %d", p, got, n, want, next)
	}
	if got := ring.Empty(l, m, p); got != (len(want) == 0 && next == 0) {
		t.Errorf("Empty(%d): %v, of %v, %d", p, got, want, next)
	}
	if m.Clock() != clock {
		t.Errorf("%d accesses", m.Clock()-clock)
	}
}

// holds holds what Gs tells of a processor's ring against what it should; it is no access.
func holds(t *testing.T, l *layout.Layout, m *cell.Mem, p int, right bool, want ...int) {
	t.Helper()
	clock := m.Clock()
	if got, is := ring.Gs(l, m, p); is != right || !slices.Equal(got, want) {
		t.Errorf("Gs(%d): %v, %v, want %v, %v", p, got, is, want, right)
	}
	if m.Clock() != clock {
		t.Errorf("%d accesses", m.Clock()-clock)
	}
}

// Promise 12.1: how many lie between, whatever both words are beyond 2^32.
func TestMany(t *testing.T) {
	cases := []struct{ head, tail, want uint64 }{
		{0, 0, 0}, {5, 5, 0}, {5, 6, 1}, {0, 256, 256}, {7, 400, 393}, {0, round - 1, round - 1},
		{round - 1, 2, 3}, {round - 1, 0, 1}, {round - 2, round - 1, 1}, {round - 1, round - 1, 0},
		{6, 5, round - 1}, {1, 0, round - 1},
		{round, 0, 0}, {0, round, 0}, {round + 5, 9, 4}, {5, round + 9, 4}, {9, round + 5, round - 4}, {1<<40 + 3, 4, 1},
		{math.MaxUint64, 0, 1}, {math.MaxUint64, math.MaxUint64, 0}, {0, math.MaxUint64, round - 1}, {math.MaxUint64, round - 1, 0},
	}
	for _, x := range cases {
		if got := ring.Many(x.head, x.tail); got != x.want {
			t.Errorf("Many(%d, %d): %d, want %d", x.head, x.tail, got, x.want)
		}
	}
}

// Promise 12.1: a ring's words lie from Head on, wherever that is, also where places, or words, go round; Next is told beside them.
func TestWords(t *testing.T) {
	for _, head := range []uint64{0, 1, 100, 254, 255, 256, 1000, round - 256, round - 2, round - 1} {
		for _, many := range []int{0, 1, 2, 5, 255, 256} {
			for _, next := range []uint64{0, 1, 300, 301, math.MaxUint64} {
				l, m := lay(t)
				for p := range procs {
					for at := range uint64(api.RingSize) {
						m.Store(99, l.Ring(p, at), 777) // lies there, but not in the ring
					}
				}
				lie(l, m, 1, head, rising(many), next)
				has(t, l, m, 1, rising(many), next)
				has(t, l, m, 0, nil, 0)
				has(t, l, m, 2, nil, 0)
			}
		}
	}
}

// Promise 12.1: words are told as they are, 0 and none of the config's among them, in order, each as often as it is there.
func TestWordsAsTheyAre(t *testing.T) {
	l, m := lay(t)
	words := []uint64{9, 0, 9, math.MaxUint64, gs + 1, 0, 1}
	lie(l, m, 2, round-3, words, 0)
	has(t, l, m, 2, words, 0)
}

// Promise 12.1: of more than RingSize the first ones are told; and not all is right then.
func TestMoreThanRingSize(t *testing.T) {
	for _, head := range []uint64{0, 3, round - 1} {
		for _, many := range []uint64{257, 258, 512, 1000, round - 1} {
			l, m := lay(t)
			lie(l, m, 1, head, rising(256), 290)
			want := append(ints(256), 289)
			holds(t, l, m, 1, true, want...)
			set(l, m, 1, head, (head+many)%round, 290)
			has(t, l, m, 1, rising(256), 290)
			holds(t, l, m, 1, false, want...)
		}
	}
}

// ints are so many numbers, from 0 on.
func ints(n int) []int {
	l := make([]int, n)
	for i := range l {
		l[i] = i
	}
	return l
}

// Promise 12.1: Head and Tail that are 2^32 and more are what they leave.
func TestWordsBeyondRound(t *testing.T) {
	l, m := lay(t)
	lie(l, m, 0, 7, []uint64{4, 2}, 3)
	for _, head := range []uint64{round + 7, 1<<40 + 7} {
		for _, tail := range []uint64{9, round + 9, 1<<63 + 9} {
			set(l, m, 0, head, tail, 3)
			has(t, l, m, 0, []uint64{4, 2}, 3)
			holds(t, l, m, 0, true, 3, 1, 2)
		}
		set(l, m, 0, head, 7, 0)
		has(t, l, m, 0, nil, 0)
	}
}

// Promise 12.1: the goroutines of a ring, and then Next's, and whether all are the config's; what is none is left out.
func TestGs(t *testing.T) {
	cases := []struct {
		words []uint64
		next  uint64
		want  []int
		right bool
	}{
		{nil, 0, nil, true},
		{nil, 1, []int{0}, true},
		{nil, gs, []int{gs - 1}, true},
		{nil, gs + 1, nil, false},
		{nil, 1 << 32, nil, false},
		{nil, 1<<32 + 1, nil, false},
		{nil, 1 << 63, nil, false},
		{nil, 1<<63 + 1, nil, false},
		{nil, math.MaxUint64, nil, false},
		{[]uint64{1}, 0, []int{0}, true},
		{[]uint64{gs}, 0, []int{gs - 1}, true},
		{[]uint64{3, 1, 5}, 2, []int{2, 0, 4, 1}, true},
		{[]uint64{3, 3}, 3, []int{2, 2, 2}, true},
		{[]uint64{0}, 0, nil, false},
		{[]uint64{0}, 4, []int{3}, false},
		{[]uint64{0, 2, 3}, 4, []int{1, 2, 3}, false},
		{[]uint64{2, 0, 3}, 4, []int{1, 2, 3}, false},
		{[]uint64{2, 3, 0}, 4, []int{1, 2, 3}, false},
		{[]uint64{2, gs + 1, 3}, 0, []int{1, 2}, false},
		{[]uint64{2, 1<<32 + 1, 3}, 0, []int{1, 2}, false},
		{[]uint64{2, math.MaxUint64, 3}, 1, []int{1, 2, 0}, false},
		{[]uint64{2, 3}, gs + 1, []int{1, 2}, false},
		{[]uint64{2, 3}, math.MaxUint64, []int{1, 2}, false},
	}
	for _, x := range cases {
		for _, head := range []uint64{0, 255, round - 1} {
			l, m := lay(t)
			lie(l, m, 2, head, x.words, x.next)
			holds(t, l, m, 2, x.right, x.want...)
			holds(t, l, m, 0, true)
			holds(t, l, m, 1, true)
		}
	}
}

// Promise 12.1: a full ring is right, and not empty.
func TestFullRing(t *testing.T) {
	l, m := lay(t)
	lie(l, m, 0, round-100, rising(256), 0)
	has(t, l, m, 0, rising(256), 0)
	holds(t, l, m, 0, true, ints(256)...)
}

// Promise 12.1: of a config of most goroutines the last one is a goroutine, and the one behind it none.
func TestGsOfMost(t *testing.T) {
	l, _ := layout.Of(api.Config{Procs: 1, Threads: 1, Gs: api.MaxGs})
	m, _ := cell.New(l.Len())
	lie(l, m, 0, 0, []uint64{api.MaxGs, 1}, api.MaxGs)
	holds(t, l, m, 0, true, api.MaxGs-1, 0, api.MaxGs-1)
	lie(l, m, 0, 0, []uint64{api.MaxGs + 1, 1}, 0)
	holds(t, l, m, 0, false, 0)
}

// Promise 12.1: of a processor that there is not: nothing and 0, nothing and true; it is empty, whatever stands in memory.
func TestNoSuchProc(t *testing.T) {
	l, _ := lay(t)
	full := make([]uint64, l.Len()+20)
	for i := range full {
		full[i] = uint64(i)
	}
	m, _ := cell.Of(full)
	for _, p := range nowhere {
		has(t, l, m, p, nil, 0)
		holds(t, l, m, p, true)
	}
}

// Promise 12.1, R3: what is told is not kept.
func TestAnswersAreOwn(t *testing.T) {
	l, m := lay(t)
	lie(l, m, 1, 5, rising(4), 9)
	words, _ := ring.Words(l, m, 1)
	list, _ := ring.Gs(l, m, 1)
	clear(words)
	clear(list)
	has(t, l, m, 1, rising(4), 9)
	holds(t, l, m, 1, true, 0, 1, 2, 3, 8)
}

// step does a step of a look that is to do just this load, and to be done, or not; as long as it is not done, Empty is false.
func step(t *testing.T, m *cell.Mem, x *ring.Look, who, at int, w uint64, done bool) {
	t.Helper()
	clock := m.Clock()
	if got := x.Step(m); got != done || x.Done() != done {
		t.Errorf("step: %v, Done %v, want %v", got, x.Done(), done)
	}
	want := api.Access{Kind: api.AcLoad, Who: who, At: at, Old: w, Done: true}
	if m.Clock() != clock+1 || m.Last() != want {
		t.Errorf("%d accesses, the last one %v, want %v", m.Clock()-clock, m.Last(), want)
	}
	if !done && x.Empty() {
		t.Errorf("empty, ahead of the last step")
	}
}

// rests does steps that are to do nothing, of a look that is done, and holds Empty against what it should be.
func rests(t *testing.T, m *cell.Mem, x *ring.Look, empty bool) {
	t.Helper()
	clock := m.Clock()
	for range 3 {
		if x.Empty() != empty {
			t.Errorf("Empty: %v", !empty)
		}
		if !x.Step(m) || !x.Done() || m.Clock() != clock {
			t.Errorf("a step of what is done: Done %v, clock %d, want %d", x.Done(), m.Clock(), clock)
		}
	}
}

// looks goes on with a look of p by who, with what is done ahead of its steps 0 to 3, and behind the last one; seen are the words that it is to load.
func looks(t *testing.T, l *layout.Layout, m *cell.Mem, who, p int, between func(n int), seen [4]uint64, empty bool) {
	t.Helper()
	x := ring.New(l, who, p)
	if x.Done() || x.Empty() {
		t.Errorf("ahead of the first step: Done %v, Empty %v", x.Done(), x.Empty())
	}
	for n, field := range []int{layout.Head, layout.Tail, layout.Next, layout.Tail} {
		between(n)
		step(t, m, x, who, l.Proc(p, field), seen[n], n == 3)
	}
	between(4)
	rests(t, m, x, empty)
}

// Promise 12.2: a look loads Head, Tail, Next and Tail, by who, and changes nothing; empty is what it saw as one word, without a Next.
func TestLook(t *testing.T) {
	cases := []struct {
		head, tail, next uint64
		empty            bool
	}{
		{0, 0, 0, true}, {7, 7, 0, true}, {round - 1, round - 1, 0, true},
		{7, 8, 0, false}, {round - 1, 0, 0, false}, {0, 256, 0, false}, {0, 300, 0, false}, {8, 7, 0, false},
		{7, 7, 1, false}, {7, 7, gs, false}, {7, 7, gs + 1, false}, {7, 7, math.MaxUint64, false}, {7, 8, 3, false},
		{round + 7, round + 7, 0, true}, {round + 7, 7, 0, false}, {7, round + 7, 0, false}, // they are to be one word
	}
	for _, x := range cases {
		for p := range procs {
			for _, who := range []int{0, procs - 1, procs, 255, 1000, -1, math.MaxInt} {
				l, m := lay(t)
				for other := range procs {
					set(l, m, other, 1, 2, 3)
				}
				set(l, m, p, x.head, x.tail, x.next)
				before := m.Words()
				looks(t, l, m, who, p, func(int) {}, [4]uint64{x.head, x.tail, x.next, x.tail}, x.empty)
				if !slices.Equal(m.Words(), before) {
					t.Errorf("a look changed words")
				}
			}
		}
	}
}

// Promise 12.2: what others store between two loads is seen by those behind it alone, and counts as it was seen.
func TestLookBetween(t *testing.T) {
	cases := []struct {
		name  string
		at    int // ahead of which load it is stored
		field int
		w     uint64
		seen  [4]uint64
		empty bool
	}{
		{"Head ahead", 0, layout.Head, 6, [4]uint64{6, 5, 0, 5}, false},
		{"Head behind its load", 1, layout.Head, 6, [4]uint64{5, 5, 0, 5}, true},
		{"Head at the end", 3, layout.Head, 6, [4]uint64{5, 5, 0, 5}, true},
		{"Tail ahead", 0, layout.Tail, 6, [4]uint64{5, 6, 0, 6}, false},
		{"Tail ahead of its load", 1, layout.Tail, 6, [4]uint64{5, 6, 0, 6}, false},
		{"Tail behind its load", 2, layout.Tail, 6, [4]uint64{5, 5, 0, 6}, false},
		{"Tail ahead of its second load", 3, layout.Tail, 6, [4]uint64{5, 5, 0, 6}, false},
		{"Tail behind the last load", 4, layout.Tail, 6, [4]uint64{5, 5, 0, 5}, true},
		{"Next ahead", 0, layout.Next, 1, [4]uint64{5, 5, 1, 5}, false},
		{"Next ahead of its load", 2, layout.Next, 1, [4]uint64{5, 5, 1, 5}, false},
		{"Next behind its load", 3, layout.Next, 1, [4]uint64{5, 5, 0, 5}, true},
		{"Next behind the last load", 4, layout.Next, 1, [4]uint64{5, 5, 0, 5}, true},
	}
	for _, x := range cases {
		t.Run(x.name, func(t *testing.T) {
			l, m := lay(t)
			set(l, m, 1, 5, 5, 0)
			looks(t, l, m, 2, 1, func(n int) {
				if n == x.at {
					m.Store(0, l.Proc(1, x.field), x.w)
				}
			}, x.seen, x.empty)
		})
	}
}

// Promise 12.2: both Tails and Head are to be one word; two of three are not enough.
func TestLookTails(t *testing.T) {
	l, m := lay(t)
	store := func(field int, words map[int]uint64) func(n int) {
		return func(n int) {
			if w, is := words[n]; is {
				m.Store(0, l.Proc(0, field), w)
			}
		}
	}
	set(l, m, 0, 5, 6, 0)
	looks(t, l, m, 1, 0, store(layout.Tail, map[int]uint64{2: 5}), [4]uint64{5, 6, 0, 5}, false)
	set(l, m, 0, 5, 5, 0)
	looks(t, l, m, 1, 0, store(layout.Tail, map[int]uint64{2: 6}), [4]uint64{5, 5, 0, 6}, false)
	set(l, m, 0, 4, 5, 0)
	looks(t, l, m, 1, 0, store(layout.Head, map[int]uint64{1: 5}), [4]uint64{4, 5, 0, 5}, false)
	set(l, m, 0, 5, 5, 0)
	looks(t, l, m, 1, 0, store(layout.Tail, map[int]uint64{2: 6, 3: 5}), [4]uint64{5, 5, 0, 5}, true)
	set(l, m, 0, 5, 5, 1)
	looks(t, l, m, 1, 0, store(layout.Next, map[int]uint64{1: 0, 3: 1}), [4]uint64{5, 5, 0, 5}, true)
}

// Promise 12.2: a goroutine that the owner moves from Next into the ring, while it is looked at, is not missed.
func TestLookIsNotDeceived(t *testing.T) {
	for at := range 4 {
		l, m := lay(t)
		set(l, m, 0, 9, 9, 4)
		x := ring.New(l, 1, 0)
		for n := range 4 {
			if n == at {
				lie(l, m, 0, 9, []uint64{4}, 0)
			}
			x.Step(m)
		}
		if !x.Done() || x.Empty() {
			t.Errorf("moved ahead of the load %d: Done %v, Empty %v", at, x.Done(), x.Empty())
		}
	}
}

// Promise 12.2: looks do not meddle with one another.
func TestLooksApart(t *testing.T) {
	l, m := lay(t)
	set(l, m, 1, 3, 4, 0)
	set(l, m, 2, 8, 8, 0)
	a, b, c := ring.New(l, 0, 0), ring.New(l, 1, 1), ring.New(l, 2, 2)
	for n := range 4 {
		for _, x := range []*ring.Look{c, a, b} {
			if x.Step(m) != (n == 3) {
				t.Errorf("step %d: Done %v", n, x.Done())
			}
		}
	}
	if !a.Empty() || b.Empty() || !c.Empty() {
		t.Errorf("Empty: %v, %v, %v", a.Empty(), b.Empty(), c.Empty())
	}
}

// Promise 12.2: of a processor that there is not the four loads are bad, and tell 0; so it is empty, as Empty says.
func TestLookAtNoProc(t *testing.T) {
	for _, p := range nowhere {
		l, m := lay(t)
		x := ring.New(l, 1, p)
		for n := range 4 {
			if x.Empty() || x.Step(m) != (n == 3) {
				t.Errorf("processor %d, step %d: Done %v", p, n, x.Done())
			}
		}
		if m.Bad() != 4 || m.Clock() != 4 {
			t.Errorf("processor %d: bad %d of %d", p, m.Bad(), m.Clock())
		}
		rests(t, m, x, true)
	}
}

// R1: no look is done, its steps do nothing, and nothing was seen to be empty.
func TestNoLook(t *testing.T) {
	_, m := lay(t)
	var x *ring.Look
	rests(t, m, x, false)
	rests(t, m, &ring.Look{}, false)
}

// Rings and looks without a memory, or without a layout, do not panic.
func TestNoMemoryNoLayout(t *testing.T) {
	l, m := lay(t)
	lie(l, m, 1, 0, rising(3), 9)
	for _, x := range []struct {
		l *layout.Layout
		m *cell.Mem
	}{{l, nil}, {nil, m}, {nil, nil}} {
		words, next := ring.Words(x.l, x.m, 1)
		list, right := ring.Gs(x.l, x.m, 1)
		if len(words) != 0 || next != 0 || len(list) != 0 || !right || !ring.Empty(x.l, x.m, 1) {
			t.Errorf("%v, %d, %v, %v", words, next, list, right)
		}
	}
	x := ring.New(l, 0, 1)
	if x.Step(nil); x.Empty() {
		t.Errorf("empty, without a memory")
	}
	y := ring.New(nil, 0, 1)
	for range 5 {
		y.Step(m)
	}
	short, _ := cell.New(l.Ring(0, 2)) // of the ring's places two are there
	lie(l, short, 0, 0, rising(2), 4)
	set(l, short, 0, 0, 3, 4)
	has(t, l, short, 0, []uint64{1, 2, 0}, 4)
	holds(t, l, short, 0, false, 0, 1, 3)
}
