package idlem_test

import (
	"math"
	"slices"
	"testing"

	"turnspit/acts"
	"turnspit/api"
	"turnspit/cell"
	"turnspit/idlem"
	"turnspit/layout"
)

const (
	threads = 12 // how many the config has
	round   = 1 << 32
	less    = round - 1
)

// whos are threads at both ends, below 0 and beyond.
var whos = []int{0, 1, threads - 1, -1, threads, 1000, math.MaxInt}

// none are threads that there are not.
var none = []int{math.MinInt, -2, -1, threads, threads + 1, api.MaxThreads, math.MaxInt}

// wrong are words that are no thread, and not 0.
var wrong = []uint64{threads + 1, threads + 2, api.MaxThreads, api.MaxThreads + 1, 1 << 32, 1<<32 + 1, 1 << 63, 1<<63 + 1, math.MaxUint64}

// layOf is a layout of so many threads, and its memory.
func layOf(t *testing.T, threads int) (*layout.Layout, *cell.Mem) {
	t.Helper()
	return acts.Lay(t, api.Config{Procs: 1, Threads: threads, Gs: 1})
}

func lay(t *testing.T) (*layout.Layout, *cell.Mem) {
	t.Helper()
	return layOf(t, threads)
}

// put puts some, one by one, by themselves.
func put(t *testing.T, l *layout.Layout, m *cell.Mem, ts ...int) {
	t.Helper()
	for _, one := range ts {
		acts.All(t, m, idlem.New(l, 0, one))
	}
}

// get gets one by itself.
func get(t *testing.T, l *layout.Layout, m *cell.Mem, want int) {
	t.Helper()
	x := idlem.NewGet(l, 0)
	acts.All(t, m, x)
	is(t, x, want)
}

// is holds what was got against what it should be.
func is(t *testing.T, x *idlem.Get, want int) {
	t.Helper()
	for range 2 {
		if got := x.T(); got != want {
			t.Errorf("T: %d, want %d", got, want)
		}
	}
}

// words holds IdleM, IdleMs and Threads against what they should be.
func words(t *testing.T, l *layout.Layout, m *cell.Mem, first, many, threads uint64) {
	t.Helper()
	for i, w := range []int{layout.IdleM, layout.IdleMs, layout.Threads} {
		want := [...]uint64{first, many, threads}[i]
		if got, _ := m.Peek(l.Word(w)); got != want {
			t.Errorf("IdleM, IdleMs, Threads, the one at %d: %d, want %d", i, got, want)
		}
	}
}

// spare holds how many are to be had against how many should be; to look at it is no access.
func spare(t *testing.T, l *layout.Layout, m *cell.Mem, want int) {
	t.Helper()
	clock := m.Clock()
	if got := idlem.Spare(l, m); got != want || m.Clock() != clock {
		t.Errorf("Spare: %d, want %d, by %d accesses", got, want, m.Clock()-clock)
	}
}

// lists holds the list against what it should be; to look at it is no access.
func lists(t *testing.T, l *layout.Layout, m *cell.Mem, right bool, want ...int) {
	t.Helper()
	clock := m.Clock()
	if got, is := idlem.List(l, m); is != right || !slices.Equal(got, want) {
		t.Errorf("List: %v, %v, want %v, %v", got, is, want, right)
	}
	if m.Clock() != clock {
		t.Errorf("List did %d accesses", m.Clock()-clock)
	}
}

// piles are lists, the first one first.
var piles = [][]int{nil, {0}, {threads - 1}, {5, 0}, {11, 2, 4}, {1, 2, 3, 4, 5, 6, 7, 8}}

// first is the first one as a word.
func first(ts []int) uint64 {
	if len(ts) == 0 {
		return 0
	}
	return uint64(ts[0]) + 1
}

// pile lets threads lie on the list, the first one first, among words that are stale; so many were had.
func pile(t *testing.T, ts []int, had uint64) (*layout.Layout, *cell.Mem) {
	t.Helper()
	l, m := lay(t)
	for at := range l.Len() {
		m.Store(0, at, 7)
	}
	m.Store(0, l.Word(layout.IdleM), 0)
	m.Store(0, l.Word(layout.IdleMs), 0)
	m.Store(0, l.Word(layout.Threads), had)
	for i := len(ts) - 1; i >= 0; i-- {
		put(t, l, m, ts[i])
	}
	words(t, l, m, first(ts), uint64(len(ts)), had)
	lists(t, l, m, true, ts...)
	return l, m
}

// Promise 18.1: a Put on a list that is empty, of one, and of several, access by access; Threads is left as it is.
func TestPut(t *testing.T) {
	for _, who := range whos {
		for _, ts := range piles {
			for _, one := range []int{9, 10} {
				l, m := pile(t, ts, 12)
				before := m.Words()
				lead, many := first(ts), uint64(len(ts))
				x := idlem.New(l, who, one)
				acts.Step(t, m, x, who, acts.Load(l.Word(layout.IdleM)), false)
				acts.Step(t, m, x, who, acts.Store(l.Thread(one, layout.MLink), lead), false)
				words(t, l, m, lead, many, 12)
				acts.Step(t, m, x, who, acts.Store(l.Word(layout.IdleM), uint64(one)+1), false)
				words(t, l, m, uint64(one)+1, many, 12)
				acts.Step(t, m, x, who, acts.Add(l.Word(layout.IdleMs), 1), true)
				acts.Rests(t, m, x)
				acts.Changed(t, m, before, map[int]uint64{
					l.Word(layout.IdleM): uint64(one) + 1, l.Word(layout.IdleMs): many + 1, l.Thread(one, layout.MLink): lead,
				})
				lists(t, l, m, true, append([]int{one}, ts...)...)
				if m.Bad() != 0 {
					t.Errorf("bad: %d", m.Bad())
				}
			}
		}
	}
}

// Promise 18.1: a Get of one that lay on the list, of one and of several, access by access; whatever Threads is, it is left as it is.
func TestGet(t *testing.T) {
	for i, who := range whos {
		for _, ts := range piles[1:] {
			had := [...]uint64{0, 3, threads, threads + 1, 1 << 40}[i%5]
			l, m := pile(t, ts, had)
			before := m.Words()
			rest, many := first(ts[1:]), uint64(len(ts))
			x := idlem.NewGet(l, who)
			is(t, x, api.None)
			acts.Step(t, m, x, who, acts.Load(l.Word(layout.IdleM)), false)
			is(t, x, api.None)
			acts.Step(t, m, x, who, acts.Load(l.Thread(ts[0], layout.MLink)), false)
			is(t, x, api.None)
			acts.Step(t, m, x, who, acts.Store(l.Word(layout.IdleM), rest), false)
			is(t, x, ts[0])
			words(t, l, m, rest, many, had)
			acts.Step(t, m, x, who, acts.Add(l.Word(layout.IdleMs), less), true)
			is(t, x, ts[0])
			acts.Rests(t, m, x)
			is(t, x, ts[0])
			acts.Changed(t, m, before, map[int]uint64{l.Word(layout.IdleM): rest, l.Word(layout.IdleMs): many - 1})
			lists(t, l, m, true, ts[1:]...)
			if m.Bad() != 0 {
				t.Errorf("bad: %d", m.Bad())
			}
		}
	}
}

// Promise 18.1: where none lies on the list, a Get gets a new one, as long as Threads is below the config's; IdleMs is left as it is.
func TestGetNew(t *testing.T) {
	for _, who := range whos {
		for _, had := range []uint64{0, 1, 5, threads - 2, threads - 1} {
			l, m := pile(t, nil, had)
			m.Store(0, l.Word(layout.IdleMs), 3)
			before := m.Words()
			x := idlem.NewGet(l, who)
			is(t, x, api.None)
			acts.Step(t, m, x, who, acts.Load(l.Word(layout.IdleM)), false)
			acts.Step(t, m, x, who, acts.Load(l.Word(layout.Threads)), false)
			is(t, x, api.None)
			acts.Step(t, m, x, who, acts.Store(l.Word(layout.Threads), had+1), true)
			is(t, x, int(had))
			acts.Rests(t, m, x)
			is(t, x, int(had))
			acts.Changed(t, m, before, map[int]uint64{l.Word(layout.Threads): had + 1})
		}
	}
}

// Promise 18.1: where all of the config's were had already, or more, a Get gets none.
func TestGetNone(t *testing.T) {
	for _, who := range whos {
		for _, had := range []uint64{threads, threads + 1, 1 << 31, 1 << 32, 1<<32 + 1, 1 << 63, math.MaxUint64} {
			l, m := pile(t, nil, had)
			m.Store(0, l.Word(layout.IdleMs), 3)
			before := m.Words()
			x := idlem.NewGet(l, who)
			acts.Step(t, m, x, who, acts.Load(l.Word(layout.IdleM)), false)
			acts.Step(t, m, x, who, acts.Load(l.Word(layout.Threads)), true)
			is(t, x, api.None)
			acts.Rests(t, m, x)
			is(t, x, api.None)
			acts.Changed(t, m, before, nil)
		}
	}
}

// Promise 18.1: of one thread alone, and of as many as there may be, each is had once.
func TestAllAreHad(t *testing.T) {
	for _, threads := range []int{1, 2, api.MaxThreads} {
		l, m := layOf(t, threads)
		for one := range threads {
			spare(t, l, m, threads-one)
			get(t, l, m, one)
		}
		spare(t, l, m, 0)
		get(t, l, m, api.None)
		put(t, l, m, 0)
		spare(t, l, m, 1)
		get(t, l, m, 0)
		get(t, l, m, api.None)
		spare(t, l, m, 0)
		words(t, l, m, 0, 0, uint64(threads))
	}
}

// Promise 18.1: IdleMs goes round at 2^32, up and down, whatever it is beyond.
func TestIdleMsGoesRound(t *testing.T) {
	for _, x := range []struct{ was, put, got uint64 }{
		{0, 1, less}, {1, 2, 0}, {round - 1, 0, round - 2}, {round, 1, round - 1}, {round + 5, 6, 4}, {math.MaxUint64, 0, round - 2},
	} {
		l, m := lay(t)
		m.Store(0, l.Word(layout.IdleMs), x.was)
		put(t, l, m, 3)
		words(t, l, m, 4, x.put, 0)
		m.Store(0, l.Word(layout.IdleMs), x.was)
		get(t, l, m, 3)
		words(t, l, m, 0, x.got, 0)
	}
}

// Promise 18.1: a thread that there is not has no Link: that store is bad; else all is as of others.
func TestPutNoSuch(t *testing.T) {
	for _, one := range none {
		l, m := lay(t)
		put(t, l, m, 4)
		x := idlem.New(l, 2, one)
		acts.Step(t, m, x, 2, acts.Load(l.Word(layout.IdleM)), false)
		acts.Step(t, m, x, 2, acts.Store(api.None, 5), false)
		acts.Step(t, m, x, 2, acts.Store(l.Word(layout.IdleM), uint64(one)+1), false)
		acts.Step(t, m, x, 2, acts.Add(l.Word(layout.IdleMs), 1), true)
		if m.Bad() != 1 {
			t.Errorf("put of %d: bad %d", one, m.Bad())
		}
		lists(t, l, m, one == -1) // the word of -1 is 0: none
	}
}

// Promise 18.1: an IdleM that is no thread, and not 0, is got; its Link is at no place.
func TestGetNoSuch(t *testing.T) {
	for _, w := range wrong {
		l, m := lay(t)
		m.Store(0, l.Word(layout.IdleM), w)
		x := idlem.NewGet(l, 2)
		acts.Step(t, m, x, 2, acts.Load(l.Word(layout.IdleM)), false)
		acts.Step(t, m, x, 2, acts.Load(api.None), false)
		is(t, x, api.None)
		acts.Step(t, m, x, 2, acts.Store(l.Word(layout.IdleM), 0), false)
		is(t, x, int(w-1))
		acts.Step(t, m, x, 2, acts.Add(l.Word(layout.IdleMs), less), true)
		is(t, x, int(w-1))
		words(t, l, m, 0, less, 0)
	}
}

// Promise 18.1: what others store between two steps is what is loaded behind it; what was loaded ahead of it is what is stored.
func TestOthersBetween(t *testing.T) {
	l, m := lay(t)
	x := idlem.New(l, 0, 4)
	m.Store(9, l.Word(layout.IdleM), 8)
	x.Step(m)
	m.Store(9, l.Word(layout.IdleM), 9)
	acts.Step(t, m, x, 0, acts.Store(l.Thread(4, layout.MLink), 8), false)
	acts.Step(t, m, x, 0, acts.Store(l.Word(layout.IdleM), 5), false)
	m.Store(9, l.Word(layout.IdleMs), 40)
	acts.Step(t, m, x, 0, acts.Add(l.Word(layout.IdleMs), 1), true)
	words(t, l, m, 5, 41, 0)

	g := idlem.NewGet(l, 0)
	m.Store(9, l.Word(layout.IdleM), 3)
	g.Step(m)
	m.Store(9, l.Word(layout.IdleM), 4)
	m.Store(9, l.Thread(2, layout.MLink), 11)
	g.Step(m)
	m.Store(9, l.Thread(2, layout.MLink), 12)
	acts.Step(t, m, g, 0, acts.Store(l.Word(layout.IdleM), 11), false)
	is(t, g, 2)
	m.Store(9, l.Word(layout.IdleMs), 40)
	acts.Step(t, m, g, 0, acts.Add(l.Word(layout.IdleMs), less), true)
	words(t, l, m, 11, 39, 0)

	m.Store(9, l.Word(layout.IdleM), 0)
	g = idlem.NewGet(l, 0)
	g.Step(m)
	m.Store(9, l.Word(layout.IdleM), 6) // one that comes behind the load is not seen
	m.Store(9, l.Word(layout.Threads), 7)
	g.Step(m)
	m.Store(9, l.Word(layout.Threads), 9)
	acts.Step(t, m, g, 0, acts.Store(l.Word(layout.Threads), 8), true)
	is(t, g, 7)
	words(t, l, m, 6, 39, 8)
}

// Promise 18.2: how many there are to be had: the config's, and those that lie there, less those that were had.
func TestSpare(t *testing.T) {
	const big = 1<<31 - 1
	for _, x := range []struct {
		idle, had uint64
		want      int
	}{
		{0, 0, threads}, {0, 1, threads - 1}, {0, threads, 0}, {3, threads, 3}, {3, 5, threads - 2}, {threads, threads, threads},
		{0, threads + 1, -1}, {big, 0, threads + big}, {0, big, threads - big}, {big, big, threads},
		{big + 1, 0, 0}, {0, big + 1, 0}, {big + 1, big + 1, 0}, {big + 1, 5, 0}, {5, big + 1, 0},
		{round, 0, 0}, {0, round, 0}, {round + 1, 1, 0}, {1, round + 1, 0}, {less, 0, 0}, {1 << 63, 0, 0}, {0, 1 << 63, 0}, {math.MaxUint64, 1, 0}, {1, math.MaxUint64, 0},
	} {
		l, m := lay(t)
		m.Store(0, l.Word(layout.IdleMs), x.idle)
		m.Store(0, l.Word(layout.Threads), x.had)
		spare(t, l, m, x.want)
		m.Store(0, l.Word(layout.IdleM), 3) // nobody asks who lies there
		spare(t, l, m, x.want)
	}
}

// Promise 18.2: a list in which one comes twice may not be; each one ahead of that is told once.
func TestListTwice(t *testing.T) {
	for _, x := range []struct {
		next []int // who comes behind whom, from the first one on; the last one is the one that comes again
		want []int
	}{
		{[]int{0, 0}, []int{0}},
		{[]int{threads - 1, 0, threads - 1}, []int{threads - 1, 0}},
		{[]int{4, 1, 3, 1}, []int{4, 1, 3}},
		{[]int{4, 1, 3, 3}, []int{4, 1, 3}},
	} {
		l, m := lay(t)
		at := l.Word(layout.IdleM)
		for _, one := range x.next {
			m.Store(0, at, uint64(one)+1)
			at = l.Thread(one, layout.MLink)
		}
		lists(t, l, m, false, x.want...)
	}
	l, m := lay(t)
	put(t, l, m, 6, 2, 6) // one that lies there is put once more
	words(t, l, m, 7, 3, 0)
	lists(t, l, m, false, 6, 2)
}

// Promise 18.2: a list in which there is no such one may not be; those ahead of it are told. Neither IdleMs nor Threads is asked.
func TestListNoSuch(t *testing.T) {
	for _, w := range wrong {
		l, m := lay(t)
		m.Store(0, l.Word(layout.IdleM), w)
		lists(t, l, m, false)
		m.Store(0, l.Word(layout.IdleM), 4)
		lists(t, l, m, true, 3)
		m.Store(0, l.Thread(3, layout.MLink), threads)
		m.Store(0, l.Thread(threads-1, layout.MLink), w)
		lists(t, l, m, false, 3, threads-1)
	}
}

// R3: an answer that is changed changes nothing.
func TestListIsNew(t *testing.T) {
	l, m := lay(t)
	put(t, l, m, 5, 9, 1)
	got, _ := idlem.List(l, m)
	clear(got)
	lists(t, l, m, true, 1, 9, 5)
}

// R1 and promise 18.1: no machine is done, and its steps do nothing; it got none.
func TestNoMachine(t *testing.T) {
	_, m := lay(t)
	var x *idlem.Put
	var g *idlem.Get
	acts.Rests(t, m, x)
	acts.Rests(t, m, g)
	is(t, g, api.None)
	acts.Rests(t, m, &idlem.Put{})
	acts.Rests(t, m, &idlem.Get{})
	is(t, &idlem.Get{}, api.None)
}

// Machines and lists without a memory, or without a layout, do not panic.
func TestNoMemoryNoLayout(t *testing.T) {
	l, m := lay(t)
	for _, x := range []acts.Machine{idlem.New(l, 0, 1), idlem.NewGet(l, 0)} {
		x.Step(nil)
		x.Done()
	}
	before := m.Words()
	for _, x := range []acts.Machine{idlem.New(nil, 0, 1), idlem.NewGet(nil, 0)} {
		for range 8 {
			x.Step(m)
			x.Done()
		}
	}
	acts.Changed(t, m, before, nil)
	idlem.List(l, nil)
	idlem.List(nil, m)
	idlem.Spare(l, nil)
	idlem.Spare(nil, m)
	idlem.Spare(nil, nil)
}
