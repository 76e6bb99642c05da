package globq_test

import (
	"math"
	"slices"
	"testing"

	"turnspit/api"
	"turnspit/cell"
	"turnspit/globq"
	"turnspit/layout"
)

const (
	gs      = 6 // how many the config has
	procs   = 2
	threads = 4
	round   = 1 << 32
)

// whos are threads at both ends, below 0 and beyond.
var whos = []int{0, 1, threads - 1, -1, threads, 1000, math.MaxInt}

// none are goroutines that there are not.
var none = []int{math.MinInt, -2, -1, gs, gs + 1, api.MaxGs, math.MaxInt}

// wrong are words that are no goroutine, and not 0.
var wrong = []uint64{gs + 1, gs + 2, api.MaxGs, api.MaxGs + 1, 1 << 32, 1<<32 + 1, 1 << 63, 1<<63 + 1, math.MaxUint64}

// layOf is a layout, and its memory.
func layOf(t *testing.T, c api.Config) (*layout.Layout, *cell.Mem) {
	t.Helper()
	l, e := layout.Of(c)
	if e != api.OK {
		t.Fatalf("layout: %v", e)
	}
	m, e := cell.New(l.Len())
	if e != api.OK {
		t.Fatalf("memory: %v", e)
	}
	return l, m
}

func lay(t *testing.T) (*layout.Layout, *cell.Mem) {
	t.Helper()
	return layOf(t, api.Config{Procs: procs, Threads: threads, Gs: gs})
}

// machine is what all machines have.
type machine interface {
	Step(m *cell.Mem) bool
	Done() bool
}

// act is an access that a step is to do.
type act struct {
	kind, at int
	w        uint64 // what is stored, or added
}

func load(at int) act            { return act{api.AcLoad, at, 0} }
func store(at int, w uint64) act { return act{api.AcStore, at, w} }
func add(at int, w uint64) act   { return act{api.AcAdd, at, w} }

// by is the access, by who, as the memory is right now.
func (a act) by(m *cell.Mem, who int) api.Access {
	old, is := m.Peek(a.at)
	w := a.w
	if a.kind == api.AcAdd && is {
		w = (old + w) % round
	}
	return api.Access{Kind: a.kind, Who: who, At: a.at, Old: old, New: w, Done: is}
}

// step does a step that is to do just this access, and to be done, or not.
func step(t *testing.T, m *cell.Mem, x machine, who int, a act, done bool) {
	t.Helper()
	want, clock := a.by(m, who), m.Clock()
	if got := x.Step(m); got != done || x.Done() != done {
		t.Errorf("step: %v, Done %v, want %v", got, x.Done(), done)
	}
	if m.Clock() != clock+1 || m.Last() != want {
		t.Errorf("%d accesses, the last one %v, want %v", m.Clock()-clock, m.Last(), want)
	}
}

// rests does steps that are to do nothing, of a machine that is done.
func rests(t *testing.T, m *cell.Mem, x machine) {
	t.Helper()
	clock := m.Clock()
	for range 3 {
		if !x.Step(m) || !x.Done() || m.Clock() != clock {
			t.Errorf("a step of what is done: Done %v, clock %d, want %d", x.Done(), m.Clock(), clock)
		}
	}
}

// all goes on with a machine until it is done, and tells how many accesses that took.
func all(t *testing.T, m *cell.Mem, x machine) int {
	t.Helper()
	clock := m.Clock()
	for n := 0; !x.Step(m); n++ {
		if n > 1<<18 {
			t.Fatalf("a machine that does not end")
		}
	}
	return m.Clock() - clock
}

// put puts some behind, by themselves.
func put(t *testing.T, l *layout.Layout, m *cell.Mem, gs ...int) {
	t.Helper()
	all(t, m, globq.New(l, 0, gs))
}

// pull pulls one by itself.
func pull(t *testing.T, l *layout.Layout, m *cell.Mem, want int) {
	t.Helper()
	x := globq.NewPull(l, 0)
	all(t, m, x)
	if x.G() != want {
		t.Errorf("pulled %d, want %d", x.G(), want)
	}
}

// holds holds what is in a machine's hand against what it should be.
func holds(t *testing.T, x interface{ Holds() []int }, want ...int) {
	t.Helper()
	for range 2 {
		if got := x.Holds(); !slices.Equal(got, want) {
			t.Errorf("Holds: %v, want %v", got, want)
		}
	}
}

// is holds what was pulled, or taken, against what it should be.
func is(t *testing.T, x interface{ G() int }, want int) {
	t.Helper()
	for range 2 {
		if g := x.G(); g != want {
			t.Errorf("G: %d, want %d", g, want)
		}
	}
}

// lists holds the queue against what it should be; to look at it is no access.
func lists(t *testing.T, l *layout.Layout, m *cell.Mem, right bool, want ...int) {
	t.Helper()
	clock := m.Clock()
	if got, is := globq.List(l, m); is != right || !slices.Equal(got, want) {
		t.Errorf("List: %v, %v, want %v, %v", got, is, want, right)
	}
	if m.Clock() != clock {
		t.Errorf("List did %d accesses", m.Clock()-clock)
	}
}

// changed holds all words against those of before, but for those that are named with what they should be.
func changed(t *testing.T, m *cell.Mem, before []uint64, want map[int]uint64) {
	t.Helper()
	for at, w := range want {
		before[at] = w
	}
	for at, w := range m.Words() {
		if w != before[at] {
			t.Errorf("word %d: %d, want %d", at, w, before[at])
		}
	}
}

// stale lets each word be what it must not be taken for, but the queue's own, which are 0.
func stale(l *layout.Layout, m *cell.Mem) {
	for at := range l.Len() {
		m.Store(0, at, 3)
	}
	for _, w := range []int{layout.GlobHead, layout.GlobTail, layout.GlobSize} {
		m.Store(0, l.Word(w), 0)
	}
}

// puts does a Put step by step, and holds each access, and what it has in its hand, against what they should be; first is where the first one is to be stored.
func puts(t *testing.T, l *layout.Layout, m *cell.Mem, who int, list []int, first int) {
	t.Helper()
	x := globq.New(l, who, list)
	holds(t, x, list...)
	for i, g := range list {
		next := uint64(0)
		if i+1 < len(list) {
			next = uint64(list[i+1]) + 1
		}
		step(t, m, x, who, store(l.G(g, layout.GLink), next), false)
		holds(t, x, list...)
	}
	step(t, m, x, who, load(l.Word(layout.GlobTail)), false)
	holds(t, x, list...)
	step(t, m, x, who, store(first, uint64(list[0])+1), false)
	holds(t, x)
	step(t, m, x, who, store(l.Word(layout.GlobTail), uint64(list[len(list)-1])+1), false)
	holds(t, x)
	step(t, m, x, who, add(l.Word(layout.GlobSize), uint64(len(list))), true)
	holds(t, x)
	rests(t, m, x)
	holds(t, x)
}

// Promises 13.1 and 13.2: a Put behind an empty queue, access by access: of one, of two, of several, of all.
func TestPutFirst(t *testing.T) {
	for _, who := range whos {
		for _, list := range [][]int{{0}, {gs - 1}, {2, 0}, {0, 5}, {4, 1, 3}, {5, 4, 3, 2, 1, 0}} {
			l, m := lay(t)
			stale(l, m)
			before := m.Words()
			puts(t, l, m, who, list, l.Word(layout.GlobHead))
			want := map[int]uint64{
				l.Word(layout.GlobHead): uint64(list[0]) + 1,
				l.Word(layout.GlobTail): uint64(list[len(list)-1]) + 1,
				l.Word(layout.GlobSize): uint64(len(list)),
			}
			for i, g := range list {
				want[l.G(g, layout.GLink)] = 0
				if i > 0 {
					want[l.G(list[i-1], layout.GLink)] = uint64(g) + 1
				}
			}
			changed(t, m, before, want)
			lists(t, l, m, true, list...)
		}
	}
}

// Promises 13.1 and 13.2: a Put behind others, access by access: GlobHead stays, and the last one so far leads to the first one that comes.
func TestPutBehind(t *testing.T) {
	for _, who := range whos {
		for _, was := range [][]int{{4}, {1, 4}, {4, 1, 3}} {
			for _, list := range [][]int{{0}, {5, 0}, {0, 2, 5}} {
				l, m := lay(t)
				stale(l, m)
				put(t, l, m, was...)
				puts(t, l, m, who, list, l.G(was[len(was)-1], layout.GLink))
				lists(t, l, m, true, slices.Concat(was, list)...)
				tail, _ := m.Peek(l.Word(layout.GlobTail))
				if size, _ := m.Peek(l.Word(layout.GlobSize)); size != uint64(len(was)+len(list)) || tail != uint64(list[len(list)-1])+1 {
					t.Errorf("GlobSize %d, GlobTail %d", size, tail)
				}
			}
		}
	}
}

// Promise 13.1: GlobTail alone tells whether the queue is empty, as it is at that load.
func TestPutGoesByTail(t *testing.T) {
	l, m := lay(t)
	m.Store(0, l.Word(layout.GlobHead), 2)
	m.Store(0, l.Word(layout.GlobSize), 7)
	puts(t, l, m, 1, []int{4}, l.Word(layout.GlobHead))
	l, m = lay(t)
	m.Store(0, l.Word(layout.GlobTail), 3)
	puts(t, l, m, 1, []int{4}, l.G(2, layout.GLink))
	lists(t, l, m, true)
}

// Promises 13.1 and 13.2: to put none is done at once, and does nothing.
func TestPutNone(t *testing.T) {
	for _, list := range [][]int{nil, {}} {
		l, m := lay(t)
		put(t, l, m, 3)
		before, clock := m.Words(), m.Clock()
		x := globq.New(l, 1, list)
		holds(t, x)
		rests(t, m, x)
		holds(t, x)
		changed(t, m, before, nil)
		if m.Clock() != clock {
			t.Errorf("a Put of none did %d accesses", m.Clock()-clock)
		}
	}
}

// Promises 13.1 and 13.2: one that comes twice in a Put is stored, held and counted twice; what lies there is as the last stores leave it.
func TestPutTwice(t *testing.T) {
	cases := []struct{ list, want []int }{
		{[]int{2, 2}, []int{2}},
		{[]int{2, 2, 2}, []int{2}},
		{[]int{1, 3, 1}, []int{1}},
		{[]int{1, 3, 1, 4}, []int{1, 4}},
		{[]int{0, 3, 0, 3, 5}, []int{0, 3, 5}},
		{[]int{0, 3, 3, 5}, []int{0, 3, 5}},
	}
	for _, x := range cases {
		l, m := lay(t)
		puts(t, l, m, 0, x.list, l.Word(layout.GlobHead))
		lists(t, l, m, true, x.want...)
		if size, _ := m.Peek(l.Word(layout.GlobSize)); size != uint64(len(x.list)) {
			t.Errorf("GlobSize of %v: %d", x.list, size)
		}
	}
}

// Promise 13.1: one that lies there already is put likewise; behind itself it leads to itself.
func TestPutAgain(t *testing.T) {
	l, m := lay(t)
	put(t, l, m, 2, 4)
	puts(t, l, m, 0, []int{2}, l.G(4, layout.GLink))
	lists(t, l, m, true, 2)
	l, m = lay(t)
	put(t, l, m, 2, 4)
	puts(t, l, m, 0, []int{4}, l.G(4, layout.GLink))
	lists(t, l, m, false, 2, 4)
}

// Promises 13.1 and 13.2: one that there is not has no GLink: that store is bad; else all is as of others.
func TestPutOfNoSuch(t *testing.T) {
	for _, g := range none {
		l, m := lay(t)
		puts(t, l, m, 2, []int{g}, l.Word(layout.GlobHead))
		if m.Bad() != 1 {
			t.Errorf("put of %d: bad %d", g, m.Bad())
		}
		lists(t, l, m, g == -1) // the word of -1 is 0: none
		l, m = lay(t)
		puts(t, l, m, 2, []int{3, g, 1}, l.Word(layout.GlobHead))
		if m.Bad() != 1 {
			t.Errorf("put of 3, %d, 1: bad %d", g, m.Bad())
		}
		lists(t, l, m, g == -1, 3)
	}
}

// Promise 13.1: behind a GlobTail that is no goroutine the first one is stored at no place.
func TestPutBehindNoSuch(t *testing.T) {
	for _, w := range wrong {
		l, m := lay(t)
		m.Store(0, l.Word(layout.GlobTail), w)
		puts(t, l, m, 2, []int{3, 1}, api.None)
		if m.Bad() != 1 {
			t.Errorf("behind %d: bad %d", w, m.Bad())
		}
		lists(t, l, m, true)
	}
}

// R3: a list that is changed after it was handed in, and an answer that is changed, change nothing.
func TestPutKeepsNoList(t *testing.T) {
	l, m := lay(t)
	list := []int{4, 0, 2}
	x := globq.New(l, 0, list)
	list[0], list[1], list[2] = 1, 1, 1
	x.Step(m)
	clear(list)
	held := x.Holds()
	clear(held)
	holds(t, x, 4, 0, 2)
	all(t, m, x)
	lists(t, l, m, true, 4, 0, 2)
	if !slices.Equal(list, []int{0, 0, 0}) {
		t.Errorf("the list was changed: %v", list)
	}
	got, _ := globq.List(l, m)
	clear(got)
	lists(t, l, m, true, 4, 0, 2)
	k := globq.NewTake(l, 0, 0, 0)
	all(t, m, k)
	clear(k.Holds())
	holds(t, k, 4)
}

// Promise 13.1: GlobSize goes round at 2^32, up and down, whatever it is beyond.
func TestSizeGoesRound(t *testing.T) {
	for _, x := range []struct{ was, behind uint64 }{{round - 1, 2}, {round - 3, 0}, {round, 3}, {round + 5, 8}, {math.MaxUint64, 2}} {
		l, m := lay(t)
		m.Store(0, l.Word(layout.GlobSize), x.was)
		puts(t, l, m, 0, []int{0, 1, 2}, l.Word(layout.GlobHead))
		if size, _ := m.Peek(l.Word(layout.GlobSize)); size != x.behind {
			t.Errorf("GlobSize %d, and 3: %d", x.was, size)
		}
	}
	for _, x := range []struct{ was, behind uint64 }{{0, round - 1}, {1, 0}, {round - 1, round - 2}, {round, round - 1}, {round + 5, 4}} {
		l, m := lay(t)
		put(t, l, m, 3)
		m.Store(0, l.Word(layout.GlobSize), x.was)
		pull(t, l, m, 3)
		if size, _ := m.Peek(l.Word(layout.GlobSize)); size != x.behind {
			t.Errorf("GlobSize %d, less 1: %d", x.was, size)
		}
	}
}

// pulls does a Pull step by step, of which it is known what it is to pull, and which word is its GLink.
func pulls(t *testing.T, l *layout.Layout, m *cell.Mem, who, g int, link uint64) {
	t.Helper()
	x := globq.NewPull(l, who)
	if x.Done() {
		t.Errorf("done ahead of the first step")
	}
	is(t, x, api.None)
	step(t, m, x, who, load(l.Word(layout.GlobHead)), false)
	is(t, x, api.None)
	step(t, m, x, who, load(l.G(g, layout.GLink)), false)
	is(t, x, api.None)
	step(t, m, x, who, store(l.Word(layout.GlobHead), link), false)
	is(t, x, g)
	if link == 0 {
		step(t, m, x, who, store(l.Word(layout.GlobTail), 0), false)
		is(t, x, g)
	}
	step(t, m, x, who, add(l.Word(layout.GlobSize), round-1), true)
	is(t, x, g)
	rests(t, m, x)
	is(t, x, g)
}

// Promise 13.1: a Pull of one of several, and of the only one, access by access; G is told from the store of GlobHead on.
func TestPull(t *testing.T) {
	for _, who := range whos {
		l, m := lay(t)
		stale(l, m)
		put(t, l, m, 4, 0, 5)
		before := m.Words()
		pulls(t, l, m, who, 4, 1)
		changed(t, m, before, map[int]uint64{l.Word(layout.GlobHead): 1, l.Word(layout.GlobSize): 2})
		pulls(t, l, m, who, 0, 6)
		changed(t, m, before, map[int]uint64{l.Word(layout.GlobHead): 6, l.Word(layout.GlobSize): 1})
		pulls(t, l, m, who, 5, 0)
		changed(t, m, before, map[int]uint64{l.Word(layout.GlobHead): 0, l.Word(layout.GlobTail): 0, l.Word(layout.GlobSize): 0})
	}
}

// Promise 13.1: a Pull of an empty queue is one load, whatever else is there.
func TestPullOfNone(t *testing.T) {
	for _, who := range whos {
		l, m := lay(t)
		stale(l, m)
		m.Store(0, l.Word(layout.GlobTail), 4)
		m.Store(0, l.Word(layout.GlobSize), 9)
		before := m.Words()
		x := globq.NewPull(l, who)
		step(t, m, x, who, load(l.Word(layout.GlobHead)), true)
		is(t, x, api.None)
		rests(t, m, x)
		is(t, x, api.None)
		changed(t, m, before, nil)
	}
}

// Promise 13.1: a GlobHead that is no goroutine has no GLink: that load is bad, and tells 0; so the queue is empty behind it.
func TestPullOfNoSuch(t *testing.T) {
	for _, w := range wrong {
		l, m := lay(t)
		put(t, l, m, 1, 2)
		m.Store(0, l.Word(layout.GlobHead), w)
		pulls(t, l, m, 1, int(w-1), 0)
		if m.Bad() != 1 {
			t.Errorf("pull of the word %d: bad %d", w, m.Bad())
		}
		lists(t, l, m, true)
	}
}

// Promise 13.1: what others store between two steps is seen as it is at each load, and no more.
func TestBetween(t *testing.T) {
	l, m := lay(t)
	put(t, l, m, 4, 0)
	x := globq.NewPull(l, 1)
	step(t, m, x, 1, load(l.Word(layout.GlobHead)), false)
	m.Store(9, l.Word(layout.GlobHead), 3)
	m.Store(9, l.G(4, layout.GLink), 6)
	step(t, m, x, 1, load(l.G(4, layout.GLink)), false)
	m.Store(9, l.G(4, layout.GLink), 0)
	step(t, m, x, 1, store(l.Word(layout.GlobHead), 6), false)
	m.Store(9, l.Word(layout.GlobHead), 0)
	is(t, x, 4)
	step(t, m, x, 1, add(l.Word(layout.GlobSize), round-1), true)
	is(t, x, 4)

	l, m = lay(t)
	y := globq.New(l, 2, []int{1, 3})
	step(t, m, y, 2, store(l.G(1, layout.GLink), 4), false)
	m.Store(9, l.Word(layout.GlobTail), 6)
	step(t, m, y, 2, store(l.G(3, layout.GLink), 0), false)
	step(t, m, y, 2, load(l.Word(layout.GlobTail)), false)
	m.Store(9, l.Word(layout.GlobTail), 0)
	step(t, m, y, 2, store(l.G(5, layout.GLink), 2), false)
	m.Store(9, l.Word(layout.GlobTail), 1)
	step(t, m, y, 2, store(l.Word(layout.GlobTail), 4), false)
	m.Store(9, l.Word(layout.GlobSize), 20)
	step(t, m, y, 2, add(l.Word(layout.GlobSize), 2), true)
}

// Promise 13.1: these machines do not ask for the scheduler's lock: whoever has it does not keep them, and its words stay.
func TestLockIsNotAsked(t *testing.T) {
	l, m := lay(t)
	for at := range layout.GlobHead {
		m.Store(0, at, uint64(at)+70)
	}
	put(t, l, m, 3, 1, 2)
	pull(t, l, m, 3)
	all(t, m, globq.NewTake(l, 3, 0, 0))
	if got := m.Words()[:layout.GlobHead]; !slices.Equal(got, []uint64{70, 71, 72, 73, 74, 75}) {
		t.Errorf("the locks' words: %v", got)
	}
}

// Promise 13.2: a queue that comes to one twice is not right; each one ahead of that is told once.
func TestListOfACircle(t *testing.T) {
	cases := []struct {
		first uint64
		links [gs]uint64
		want  []int
	}{
		{1, [gs]uint64{1}, []int{0}},
		{6, [gs]uint64{5: 6}, []int{5}},
		{2, [gs]uint64{2, 1}, []int{1, 0}},
		{1, [gs]uint64{2, 3, 4, 5, 6, 1}, []int{0, 1, 2, 3, 4, 5}},
		{4, [gs]uint64{2, 3, 2, 1}, []int{3, 0, 1, 2}},
		{3, [gs]uint64{0, 2, 2, 1}, []int{2, 1}},
	}
	for _, x := range cases {
		l, m := lay(t)
		m.Store(0, l.Word(layout.GlobHead), x.first)
		for g, link := range x.links {
			m.Store(0, l.G(g, layout.GLink), link)
		}
		lists(t, l, m, false, x.want...)
	}
}

// Promise 13.2: a queue that begins at, or comes to, a word which is no goroutine is not right; those ahead are told.
func TestListOfNoSuch(t *testing.T) {
	for _, w := range wrong {
		l, m := lay(t)
		m.Store(0, l.Word(layout.GlobHead), w)
		lists(t, l, m, false)
		m.Store(0, l.Word(layout.GlobHead), gs)
		m.Store(0, l.G(gs-1, layout.GLink), 1)
		m.Store(0, l.G(0, layout.GLink), w)
		lists(t, l, m, false, gs-1, 0)
	}
}

// Promise 13.2: the queue is told by GlobHead and the GLinks alone.
func TestListLooksAtLinks(t *testing.T) {
	l, m := lay(t)
	lists(t, l, m, true)
	for at := range l.Len() {
		m.Store(0, at, 3)
	}
	m.Store(0, l.Word(layout.GlobHead), 4)
	m.Store(0, l.G(3, layout.GLink), 1)
	m.Store(0, l.G(0, layout.GLink), 2)
	m.Store(0, l.G(1, layout.GLink), 0)
	lists(t, l, m, true, 3, 0, 1)
	m.Store(0, l.Word(layout.GlobHead), 0)
	lists(t, l, m, true)
}

// Promises 13.1 and 13.2: all goroutines of a config of most are put at once, listed, and pulled in that order.
func TestMost(t *testing.T) {
	l, m := layOf(t, api.Config{Procs: 1, Threads: 1, Gs: api.MaxGs})
	list := make([]int, api.MaxGs)
	for i := range list {
		list[i] = (i*5 + 3) % api.MaxGs
	}
	if n := all(t, m, globq.New(l, 0, list)); n != api.MaxGs+4 {
		t.Errorf("%d accesses", n)
	}
	lists(t, l, m, true, list...)
	for _, g := range list {
		pull(t, l, m, g)
	}
	pull(t, l, m, api.None)
	lists(t, l, m, true)
	if m.Bad() != 0 {
		t.Errorf("bad: %d", m.Bad())
	}
}

// R1: no machine is done, its steps do nothing, and it has nothing.
func TestNoMachine(t *testing.T) {
	_, m := lay(t)
	for _, x := range []*globq.Put{nil, {}} {
		rests(t, m, x)
		holds(t, x)
	}
	for _, x := range []*globq.Pull{nil, {}} {
		rests(t, m, x)
		is(t, x, api.None)
	}
	for _, x := range []*globq.Take{nil, {}} {
		rests(t, m, x)
		is(t, x, api.None)
		holds(t, x)
	}
}

// Machines and lists without a memory, or without a layout, do not panic.
func TestNoMemoryNoLayout(t *testing.T) {
	l, m := lay(t)
	x, y, z := globq.New(l, 0, []int{1, 2}), globq.NewPull(l, 0), globq.NewTake(l, 0, 0, 0)
	for range 5 {
		if x.Step(nil) || y.Step(nil) || z.Step(nil) {
			t.Errorf("done without a memory")
		}
	}
	holds(t, x, 1, 2)
	is(t, y, api.None)
	is(t, z, api.None)
	holds(t, z)
	x, y, z = globq.New(nil, 0, []int{1, 2}), globq.NewPull(nil, 0), globq.NewTake(nil, 0, 0, 0)
	for range 20 {
		x.Step(m)
		y.Step(m)
		z.Step(m)
	}
	rests(t, m, globq.New(nil, 0, nil))
	is(t, y, api.None)
	is(t, z, api.None)
	if slices.ContainsFunc(m.Words(), func(w uint64) bool { return w != 0 }) {
		t.Errorf("words of a memory of another layout: %v", m.Words())
	}
	put(t, l, m, 2)
	for _, x := range []struct {
		l *layout.Layout
		m *cell.Mem
	}{{l, nil}, {nil, m}, {nil, nil}} {
		if got, _ := globq.List(x.l, x.m); len(got) != 0 {
			t.Errorf("List, without a memory, or a layout: %v", got)
		}
	}
}
