package steal_test

import (
	"math"
	"slices"
	"testing"

	"turnspit/api"
	"turnspit/cell"
	"turnspit/layout"
	"turnspit/ring"
	"turnspit/steal"
)

const (
	procs   = 3
	threads = 4
	gs      = 400 // more than a ring has
	round   = 1 << 32
)

var (
	// whos are threads at both ends, below 0 and beyond.
	whos = []int{0, 1, threads - 1, -1, threads, 1000, math.MinInt, math.MaxInt}

	// heads are where a ring may begin; it may end there likewise.
	heads = []uint64{0, 1, 100, 128, 129, 254, 255, 256, 257, 1000, round - 256, round - 128, round - 127, round - 2, round - 1}

	// wrong are words that are goroutines of no config.
	wrong = []uint64{gs + 1, api.MaxGs + 1, 1 << 32, 1<<32 + 1, 1 << 63, 1<<63 + 1, math.MaxUint64}

	// nowhere are processors that there are not.
	nowhere = []int{math.MinInt, -2, -1, procs, procs + 1, api.MaxProcs, math.MaxInt}
)

// lay is a layout, and its memory, all of whose words are some that no ring should give.
func lay(t *testing.T) (*layout.Layout, *cell.Mem) {
	t.Helper()
	l, e := layout.Of(api.Config{Procs: procs, Threads: threads, Gs: gs})
	if e != api.OK {
		t.Fatalf("layout: %v", e)
	}
	m, e := cell.New(l.Len())
	if e != api.OK {
		t.Fatalf("memory: %v", e)
	}
	for at := range l.Len() {
		m.Store(99, at, 777)
	}
	for p := range procs {
		lie(l, m, p, 7, nil, 0)
	}
	return l, m
}

// lie lets words lie in a processor's ring, from Head on, with Next beside them.
func lie(l *layout.Layout, m *cell.Mem, p int, head uint64, words []uint64, next uint64) {
	m.Store(99, l.Proc(p, layout.Head), head)
	m.Store(99, l.Proc(p, layout.Tail), (head+uint64(len(words)))%round)
	m.Store(99, l.Proc(p, layout.Next), next)
	for i, w := range words {
		m.Store(99, l.Ring(p, head+uint64(i)), w)
	}
}

// has holds a ring's words, and its next one, against what they should be.
func has(t *testing.T, l *layout.Layout, m *cell.Mem, p int, want []uint64, next uint64) {
	t.Helper()
	if got, n := ring.Words(l, m, p); !slices.Equal(got, want) || n != next {
		t.Errorf("the ring of %d: %v, %d, want %v, %d", p, got, n, want, next)
	}
}

// rising are so many words, from first on.
func rising(first uint64, n int) []uint64 {
	list := make([]uint64, n)
	for i := range list {
		list[i] = first + uint64(i)
	}
	return list
}

// numbers are the goroutines of words, those of none too.
func numbers(words []uint64) []int {
	var list []int
	for _, w := range words {
		list = append(list, int(w-1))
	}
	return list
}

// act is an access that a step is to do.
type act struct {
	kind, at int
	old, w   uint64 // what a swap awaits; what is stored
}

func load(at int) act              { return act{kind: api.AcLoad, at: at} }
func store(at int, w uint64) act   { return act{kind: api.AcStore, at: at, w: w} }
func swap(at int, o, w uint64) act { return act{kind: api.AcSwap, at: at, old: o, w: w} }

// by is the access, by who, as the memory is right now.
func (a act) by(m *cell.Mem, who int) api.Access {
	old, is := m.Peek(a.at)
	return api.Access{Kind: a.kind, Who: who, At: a.at, Old: old, New: a.w, Done: is && (a.kind != api.AcSwap || old == a.old)}
}

// theft is a Steal that is gone on with, and whose steps are held against what they should do.
type theft struct {
	t       *testing.T
	l       *layout.Layout
	m       *cell.Mem
	x       *steal.Steal
	who     int
	p, from int
	tail    uint64 // the own one
}

// begin makes a Steal, and does its first step.
func begin(t *testing.T, l *layout.Layout, m *cell.Mem, who, p, from int, last bool) *theft {
	t.Helper()
	y := &theft{t, l, m, steal.New(l, who, p, from, last), who, p, from, 0}
	y.tail, _ = m.Peek(l.Proc(p, layout.Tail))
	tells(t, y.x, api.None)
	y.goes(load(l.Proc(p, layout.Tail)))
	return y
}

// step does a step that is to do just this access, and to be done, or not.
func (y *theft) step(a act, done bool) {
	y.t.Helper()
	want, clock := a.by(y.m, y.who), y.m.Clock()
	if y.x.Done() {
		y.t.Errorf("done ahead of a step")
	}
	if got := y.x.Step(y.m); got != done || y.x.Done() != done {
		y.t.Errorf("step: %v, Done %v, want %v", got, y.x.Done(), done)
	}
	if y.m.Clock() != clock+1 || y.m.Last() != want {
		y.t.Errorf("%d accesses, the last one %v, want %v", y.m.Clock()-clock, y.m.Last(), want)
	}
}

// goes does steps that are to do these accesses, none of which ends it, or steals anything.
func (y *theft) goes(acts ...act) {
	y.t.Helper()
	for i, a := range acts {
		y.step(a, false)
		tells(y.t, y.x, api.None)
		if y.t.Failed() {
			y.t.Fatalf("step %d of %d", i, len(acts))
		}
	}
}

// ends does the step that ends it, and then some that do nothing.
func (y *theft) ends(a act, g int, held ...int) {
	y.t.Helper()
	y.step(a, true)
	rests(y.t, y.m, y.x, g, held...)
	if y.t.Failed() {
		y.t.Fatalf("the last step")
	}
}

// look is the load of one of the other one's words.
func (y *theft) look(field int) act {
	return load(y.l.Proc(y.from, field))
}

// looks does the loads of the other one's Head and Tail.
func (y *theft) looks() {
	y.t.Helper()
	y.goes(y.look(layout.Head), y.look(layout.Tail))
}

// copies does the steps by which these words, which lie from head on, come behind the own ring's end.
func (y *theft) copies(head uint64, words []uint64) {
	y.t.Helper()
	for i, w := range words {
		at := uint64(i)
		y.goes(load(y.l.Ring(y.from, head+at)), store(y.l.Ring(y.p, y.tail+at), w))
	}
}

// swaps is the swap of the other one's Head, by which so many are stolen.
func (y *theft) swaps(head uint64, n int) act {
	return swap(y.l.Proc(y.from, layout.Head), head, (head+uint64(n))%round)
}

// takes does the steps from the swap of Head on, which is done, by which these words are stolen.
func (y *theft) takes(head uint64, words []uint64) {
	y.t.Helper()
	n, all := len(words), numbers(words)
	g := all[n-1]
	alone := all[n-1:]
	if g == api.None {
		all, alone = nil, nil
	}
	if n == 1 {
		y.ends(y.swaps(head, n), g, alone...)
		return
	}
	y.step(y.swaps(head, n), false)
	tells(y.t, y.x, g, all...)
	y.ends(store(y.l.Proc(y.p, layout.Tail), (y.tail+uint64(n-1))%round), g, alone...)
}

// steals does all steps of a try in which these words are stolen.
func (y *theft) steals(head uint64, words []uint64) {
	y.t.Helper()
	y.looks()
	y.copies(head, words)
	y.takes(head, words)
}

// stealsNext does all steps of a try in which the next one is stolen.
func (y *theft) stealsNext(next uint64) {
	y.t.Helper()
	y.looks()
	y.goes(y.look(layout.Next))
	g := int(next - 1)
	y.ends(swap(y.l.Proc(y.from, layout.Next), next, 0), g, g)
}

// tells holds what is told of a machine against what it should be.
func tells(t *testing.T, x *steal.Steal, g int, held ...int) {
	t.Helper()
	for range 2 {
		if x.G() != g || !slices.Equal(x.Holds(), held) {
			t.Errorf("G %d, Holds %v, want %d, %v", x.G(), x.Holds(), g, held)
		}
	}
}

// rests does steps that are to do nothing, of a machine that is done.
func rests(t *testing.T, m *cell.Mem, x *steal.Steal, g int, held ...int) {
	t.Helper()
	clock := m.Clock()
	for range 3 {
		tells(t, x, g, held...)
		if !x.Step(m) || !x.Done() || m.Clock() != clock {
			t.Errorf("a step of what is done: Done %v, clock %d, want %d", x.Done(), m.Clock(), clock)
		}
	}
}

// changed holds a memory's words against those that it had before, but for these.
func changed(t *testing.T, m *cell.Mem, before []uint64, but map[int]uint64) {
	t.Helper()
	for at, w := range but {
		before[at] = w
	}
	if !slices.Equal(m.Words(), before) || m.Bad() != 0 {
		t.Errorf("other words were changed; bad %d", m.Bad())
	}
}

// Promises 16.1 and 16.2: one half, rounded up, is stolen, access by access, wherever both rings lie; at last or not, and whatever the next one is; no other words are changed.
func TestSteal(t *testing.T) {
	for i, head := range heads {
		for j, n := range []int{1, 2, 3, 4, 5, 6, 7, 100, 101, 127, 128, 129, 253, 254, api.RingSize - 1, api.RingSize} {
			who, tail, next := whos[(i+j)%len(whos)], heads[(2*i+5*j)%len(heads)], uint64((i+j)%3)
			p := (i + j) % procs
			from := (p + 1 + j%2) % procs
			l, m := lay(t)
			words := rising(21, n)
			lie(l, m, p, tail, nil, 9)
			lie(l, m, from, head, words, next)
			before := m.Words()
			stolen := words[:(n+1)/2]
			begin(t, l, m, who, p, from, i%2 == 0).steals(head, stolen)
			has(t, l, m, p, stolen[:len(stolen)-1], 9)
			has(t, l, m, from, words[len(stolen):], next)
			but := map[int]uint64{
				l.Proc(from, layout.Head): (head + uint64(len(stolen))) % round,
				l.Proc(p, layout.Tail):    (tail + uint64(len(stolen)-1)) % round,
			}
			for at, w := range stolen { // the goroutine too, though it does not lie within the ring
				but[l.Ring(p, tail+uint64(at))] = w
			}
			changed(t, m, before, but)
		}
	}
}

// Promises 16.1 and 16.2: each one steals from each other one.
func TestEachFromEach(t *testing.T) {
	for p := range procs {
		for from := range procs {
			for _, last := range []bool{false, true} {
				if p == from {
					continue
				}
				l, m := lay(t)
				lie(l, m, p, 255, nil, 0)
				lie(l, m, from, 254, rising(1, 5), 0)
				begin(t, l, m, 0, p, from, last).steals(254, rising(1, 3))
				has(t, l, m, p, rising(1, 2), 0)
				has(t, l, m, from, rising(4, 2), 0)
			}
		}
	}
}

// The chapter's example.
func TestExample(t *testing.T) {
	l, m := lay(t)
	lie(l, m, 0, 0, []uint64{2, 3, 4, 5, 6}, 0)
	lie(l, m, 1, 0, nil, 0)
	x := steal.New(l, 1, 1, 0, false)
	for !x.Step(m) {
	}
	tells(t, x, 3, 3)
	has(t, l, m, 0, []uint64{5, 6}, 0)
	has(t, l, m, 1, []uint64{2, 3}, 0)
}

// Promise 16.1: of a ring that is empty there is none, by three steps, if it is not at last, whatever the next one is.
func TestEmpty(t *testing.T) {
	for i, head := range heads {
		for _, next := range append(wrong, 0, 1, gs) {
			who := whos[i%len(whos)]
			l, m := lay(t)
			lie(l, m, 2, head, nil, next)
			before := m.Words()
			y := begin(t, l, m, who, 0, 2, false)
			y.goes(y.look(layout.Head))
			y.ends(y.look(layout.Tail), api.None)
			changed(t, m, before, nil)
		}
	}
}

// Promises 16.1 and 16.2: of a ring that is empty, at last, the next one is stolen; without one there is none; the own ring is left.
func TestNext(t *testing.T) {
	for _, who := range whos {
		for _, head := range heads {
			l, m := lay(t)
			lie(l, m, 2, head, nil, 0)
			lie(l, m, 1, 50, nil, 9)
			before := m.Words()
			y := begin(t, l, m, who, 1, 2, true)
			y.looks()
			y.ends(y.look(layout.Next), api.None)
			changed(t, m, before, nil)
			for _, next := range append(wrong, 1, 2, gs) {
				lie(l, m, 2, head, nil, next)
				begin(t, l, m, who, 1, 2, true).stealsNext(next)
				changed(t, m, before, nil)
			}
		}
	}
}

// Promise 16.1: where the half is more than Half, it is tried anew, Tries times, at last or not; no word is changed.
func TestMoreThanHalf(t *testing.T) {
	for _, many := range []uint64{257, 258, 259, 300, 512, 1000, 1 << 31, round - 256, round - 2, round - 1} {
		for _, head := range heads {
			for _, last := range []bool{false, true} {
				l, m := lay(t)
				lie(l, m, 1, head, rising(21, api.RingSize), 5)
				m.Store(99, l.Proc(1, layout.Tail), (head+many)%round)
				before := m.Words()
				y := begin(t, l, m, 2, 0, 1, last)
				for range api.Tries - 1 {
					y.looks()
				}
				y.goes(y.look(layout.Head))
				y.ends(y.look(layout.Tail), api.None)
				changed(t, m, before, nil)
			}
		}
	}
}

// The ways to try anew.
const (
	headIsStolen = iota
	nextIsStolen
	moreThanHalf
	howMany
)

// fails does all steps of a try that fails in this way, but the last one, which it tells.
func (y *theft) fails(way, try int) act {
	y.t.Helper()
	head := uint64(250 + 3*try)
	next := y.l.Proc(y.from, layout.Next)
	switch way {
	case headIsStolen:
		words := rising(uint64(40*try+1), 4+try)
		lie(y.l, y.m, y.from, head, words, 0)
		n := (len(words) + 1) / 2
		y.looks()
		y.copies(head, words[:n])
		y.m.Store(9, y.l.Proc(y.from, layout.Head), head+1)
		return y.swaps(head, n)
	case nextIsStolen:
		lie(y.l, y.m, y.from, head, nil, 9)
		y.looks()
		y.goes(y.look(layout.Next))
		y.m.Store(9, next, uint64(6*try)) // none, or another one
		return swap(next, 9, 0)
	}
	lie(y.l, y.m, y.from, head, nil, 9)
	y.m.Store(9, y.l.Proc(y.from, layout.Tail), head+257)
	y.goes(y.look(layout.Head))
	return y.look(layout.Tail)
}

// ways are the ways of so many tries, of which there are so many.
func ways(tries, which int) []int {
	list := make([]int, tries)
	for i := range list {
		list[i] = which % howMany
		which /= howMany
	}
	return list
}

// power is howMany, so many times.
func power(tries int) int {
	n := 1
	for range tries {
		n *= howMany
	}
	return n
}

// Promises 16.1 and 16.2: it is given up behind Tries tries, in whatever way each of them fails; nothing is held then.
func TestGivenUp(t *testing.T) {
	for which := range power(api.Tries) {
		l, m := lay(t)
		lie(l, m, 0, 200, nil, 9)
		y := begin(t, l, m, 3, 0, 2, true)
		for try, way := range ways(api.Tries, which) {
			a := y.fails(way, try)
			if try < api.Tries-1 {
				y.goes(a)
				continue
			}
			y.ends(a, api.None)
		}
		has(t, l, m, 0, nil, 9)
	}
}

// Promises 16.1 and 16.2: a try behind those that failed does as the first one would, by what is there then.
func TestTriedAnew(t *testing.T) {
	for tries := range api.Tries {
		for which := range power(tries) {
			for end := range 3 {
				l, m := lay(t)
				lie(l, m, 0, 200, nil, 9)
				y := begin(t, l, m, 3, 0, 2, true)
				for try, way := range ways(tries, which) {
					y.goes(y.fails(way, try))
				}
				switch end {
				case 0:
					lie(l, m, 2, round-3, rising(300, 7), 9)
					y.steals(round-3, rising(300, 4))
					has(t, l, m, 0, rising(300, 3), 9)
					has(t, l, m, 2, rising(304, 3), 9)
				case 1:
					lie(l, m, 2, round-3, nil, 12)
					y.stealsNext(12)
					has(t, l, m, 0, nil, 9)
					has(t, l, m, 2, nil, 0)
				default:
					lie(l, m, 2, round-3, nil, 0)
					y.looks()
					y.ends(y.look(layout.Next), api.None)
				}
			}
		}
	}
}

// Promise 16.1: not at last a try that fails is followed by others likewise; one that finds the ring empty is the last one.
func TestTriedAnewNotAtLast(t *testing.T) {
	for tries := range api.Tries {
		for _, way := range []int{headIsStolen, moreThanHalf} {
			l, m := lay(t)
			y := begin(t, l, m, 3, 0, 2, false)
			for try := range tries {
				y.goes(y.fails(way, try))
			}
			lie(l, m, 2, round-3, nil, 12)
			y.goes(y.look(layout.Head))
			y.ends(y.look(layout.Tail), api.None)
			has(t, l, m, 2, nil, 12)
		}
	}
}

// Promises 16.1 and 16.2: what others store between two steps is seen as it was loaded; the own Tail is loaded once.
func TestBetween(t *testing.T) {
	l, m := lay(t)
	own, head, tail := l.Proc(1, layout.Tail), l.Proc(0, layout.Head), l.Proc(0, layout.Tail)
	lie(l, m, 0, 30, rising(21, 9), 0)
	lie(l, m, 1, 90, nil, 0)
	y := begin(t, l, m, 2, 1, 0, false)
	m.Store(9, own, 95) // behind its load
	m.Store(9, head, 31)
	y.goes(load(head))
	m.Store(9, head, 30)
	m.Store(9, tail, 35) // ahead of its load: 4 lie between
	y.goes(load(tail))
	m.Store(9, tail, 30)
	m.Store(9, l.Ring(0, 31), 300) // ahead of its load
	y.goes(load(l.Ring(0, 31)))
	m.Store(9, l.Ring(0, 31), 301) // behind it
	y.goes(store(l.Ring(1, 90), 300))
	m.Store(9, l.Ring(1, 90), 302) // what was loaded is in the hand, not what lies there
	y.goes(load(l.Ring(0, 32)), store(l.Ring(1, 91), 23))
	m.Store(9, l.Ring(1, 91), 303)
	m.Store(9, head, 31)
	y.step(swap(head, 31, 33), false)
	tells(t, y.x, 22, 299, 22)
	m.Store(9, head, 70)
	m.Store(9, own, 96)
	tells(t, y.x, 22, 299, 22)
	y.ends(store(own, 91), 22, 22)
	m.Store(9, own, 97)
	rests(t, m, y.x, 22, 22)
}

// Promise 16.1: a swap is done, if it is what was loaded, though it was another one between.
func TestIsBack(t *testing.T) {
	l, m := lay(t)
	head, next := l.Proc(0, layout.Head), l.Proc(0, layout.Next)
	lie(l, m, 0, 30, rising(21, 3), 0)
	y := begin(t, l, m, 2, 1, 0, true)
	y.looks()
	y.copies(30, rising(21, 2))
	m.Store(9, head, 33)
	m.Store(9, head, 30)
	y.takes(30, rising(21, 2))

	lie(l, m, 0, 30, nil, 4)
	y = begin(t, l, m, 2, 1, 0, true)
	y.looks()
	y.goes(load(next))
	m.Store(9, next, 0)
	m.Store(9, next, 4)
	y.ends(swap(next, 4, 0), 3, 3)
}

// Promise 16.1: words that are 2^32 and more are what they leave, but the swap of Head awaits the whole word.
func TestBeyondRound(t *testing.T) {
	for _, x := range []struct{ own, head, tail uint64 }{
		{round + 5, 7, 12}, {5, round + 7, 12}, {5, 7, round + 12}, {1<<63 + 255, 1<<40 + 7, 1<<50 + 12},
		{math.MaxUint64, math.MaxUint64, 4}, {math.MaxUint64 - 1, math.MaxUint64 - 2, round + 2}, {math.MaxUint64, round - 1, math.MaxUint64 - round + 5},
	} {
		l, m := lay(t)
		lie(l, m, 0, x.head, rising(21, 5), 0)
		m.Store(99, l.Proc(0, layout.Tail), x.tail)
		m.Store(99, l.Proc(1, layout.Tail), x.own)
		begin(t, l, m, 2, 1, 0, false).steals(x.head, rising(21, 3))
		lie(l, m, 0, x.head, nil, 6)
		m.Store(99, l.Proc(0, layout.Tail), x.head+round) // none lie between
		begin(t, l, m, 2, 1, 0, true).stealsNext(6)
	}
}

// Promises 16.1 and 16.2: words that are no goroutines are stolen as they are; a word 0 is held as None, but where it is the goroutine nothing is held at any time.
func TestNoSuch(t *testing.T) {
	lists := [][]uint64{{0}, {1, 0}, {0, 1}, {0, 0}, {1, 0, 2}, {0, 1, 2}, {1, 2, 0}, {0, 0, 0}, {0, 0, 3}, wrong, append([]uint64{0}, wrong...), append(slices.Clone(wrong), 0)}
	for _, w := range wrong {
		lists = append(lists, []uint64{w}, []uint64{w, 1}, []uint64{1, w}, []uint64{w, 0}, []uint64{0, w})
	}
	for _, words := range lists {
		for _, last := range []bool{false, true} {
			l, m := lay(t)
			lie(l, m, 0, 254, append(slices.Clone(words), words...), 7) // of which one half is stolen
			lie(l, m, 2, 255, nil, 0)
			begin(t, l, m, 1, 2, 0, last).steals(254, words)
			has(t, l, m, 2, words[:len(words)-1], 0)
			has(t, l, m, 0, words, 7)
			if m.Bad() != 0 {
				t.Errorf("bad: %d", m.Bad())
			}
		}
	}
}

// Promises 16.1 and 16.2: a Steal from itself lets the first ones lie behind the others, but the one that is found.
func TestFromItself(t *testing.T) {
	for _, head := range heads {
		for _, n := range []int{1, 2, 5, 100, 254, 255, api.RingSize} {
			l, m := lay(t)
			words := rising(21, n)
			lie(l, m, 1, head, words, 4)
			stolen := words[:(n+1)/2]
			begin(t, l, m, 0, 1, 1, true).steals(head, stolen)
			has(t, l, m, 1, slices.Concat(words[len(stolen):], stolen[:len(stolen)-1]), 4)
		}
		l, m := lay(t)
		lie(l, m, 1, head, nil, 4)
		begin(t, l, m, 0, 1, 1, true).stealsNext(4)
		has(t, l, m, 1, nil, 0)
	}
}

// Promise 16.1: from a processor that there is not nothing is stolen: all accesses are bad, but the first one.
func TestFromNoSuch(t *testing.T) {
	for _, from := range nowhere {
		l, m := lay(t)
		before := m.Words()
		y := begin(t, l, m, 0, 1, from, false)
		y.goes(load(api.None))
		y.ends(load(api.None), api.None)
		y = begin(t, l, m, 0, 1, from, true)
		y.looks()
		y.ends(load(api.None), api.None)
		if !slices.Equal(m.Words(), before) || m.Bad() != 5 {
			t.Errorf("processor %d: bad %d, or words were changed", from, m.Bad())
		}
	}
}

// Promises 16.1 and 16.2: for a processor that there is not it is stolen likewise, but what is stolen is laid nowhere.
func TestForNoSuch(t *testing.T) {
	for _, p := range nowhere {
		l, m := lay(t)
		lie(l, m, 1, 3, rising(21, 5), 9)
		before := m.Words()
		begin(t, l, m, 0, p, 1, false).steals(3, rising(21, 3))
		before[l.Proc(1, layout.Head)] = 6
		if !slices.Equal(m.Words(), before) || m.Bad() != 5 {
			t.Errorf("processor %d: bad %d, or words were changed", p, m.Bad())
		}
		lie(l, m, 1, 3, nil, 9)
		begin(t, l, m, 0, p, 1, true).stealsNext(9)
		begin(t, l, m, 0, p, p, true).goes(load(api.None), load(api.None))
	}
}

// R3: an answer that is changed changes nothing.
func TestAnswersAreOwn(t *testing.T) {
	l, m := lay(t)
	lie(l, m, 0, 3, rising(21, 6), 0)
	y := begin(t, l, m, 1, 1, 0, false)
	y.looks()
	y.copies(3, rising(21, 3))
	y.step(y.swaps(3, 3), false)
	clear(y.x.Holds())
	tells(t, y.x, 22, 20, 21, 22)
	y.step(store(l.Proc(1, layout.Tail), y.tail+2), true)
	got := y.x.Holds()
	got[0] = 77
	_ = append(got[:0], 78, 79)
	rests(t, m, y.x, 22, 22)
	has(t, l, m, 1, rising(21, 2), 0)
}

// R1: no machine is done, its steps do nothing, and it has nothing.
func TestNoMachine(t *testing.T) {
	_, m := lay(t)
	rests(t, m, nil, api.None)
	rests(t, m, &steal.Steal{}, api.None)
}

// Machines without a memory, or without a layout, do not panic, and steal nothing.
func TestNoMemoryNoLayout(t *testing.T) {
	l, m := lay(t)
	lie(l, m, 0, 3, rising(21, 6), 4)
	before := m.Words()
	for _, last := range []bool{false, true} {
		x, y := steal.New(l, 0, 1, 0, last), steal.New(nil, 0, 1, 0, last)
		for range 20 {
			x.Step(nil)
			y.Step(m)
			tells(t, x, api.None)
			tells(t, y, api.None)
		}
	}
	if !slices.Equal(m.Words(), before) {
		t.Errorf("words of a memory of another layout were changed")
	}
}
