package idlep_test

import (
	"math"
	"slices"
	"testing"

	"turnspit/acts"
	"turnspit/api"
	"turnspit/cell"
	"turnspit/idlep"
	"turnspit/layout"
)

const (
	procs   = api.MaxProcs
	threads = 80
	round   = 1 << 32
	less    = round - 1
)

// whos are threads at both ends, below 0 and beyond.
var whos = []int{0, 1, threads - 1, -1, threads, 1000, math.MaxInt}

// none are processors that there are not.
var none = []int{math.MinInt, -1000, -2, -1, procs, procs + 1, 1000, 1 << 32, math.MaxInt}

// wrong are words that are no processor, and not 0.
var wrong = []uint64{procs + 1, procs + 2, 1 << 32, 1<<32 + 1, 1 << 63, 1<<63 + 1, math.MaxUint64}

// layOf is a layout of so many processors, and its memory.
func layOf(t *testing.T, procs int) (*layout.Layout, *cell.Mem) {
	t.Helper()
	return acts.Lay(t, api.Config{Procs: procs, Threads: threads, Gs: 1})
}

func lay(t *testing.T) (*layout.Layout, *cell.Mem) {
	t.Helper()
	return layOf(t, procs)
}

// put puts some, one by one, by themselves.
func put(t *testing.T, l *layout.Layout, m *cell.Mem, ps ...int) {
	t.Helper()
	for _, p := range ps {
		acts.All(t, m, idlep.New(l, 0, p))
	}
}

// holds holds what is in a Put's hand against what it should be.
func holds(t *testing.T, x *idlep.Put, want int) {
	t.Helper()
	for range 2 {
		if got := x.Holds(); got != want {
			t.Errorf("Holds: %d, want %d", got, want)
		}
	}
}

// is holds what was got against what it should be.
func is(t *testing.T, x *idlep.Get, want int) {
	t.Helper()
	for range 2 {
		if got := x.P(); got != want {
			t.Errorf("P: %d, want %d", got, want)
		}
	}
}

// word is one of the list's words.
func word(l *layout.Layout, m *cell.Mem, w int) uint64 {
	got, _ := m.Peek(l.Word(w))
	return got
}

// words holds Mask, IdleP and IdlePs against what they should be.
func words(t *testing.T, l *layout.Layout, m *cell.Mem, mask, first, many uint64) {
	t.Helper()
	got := [...]uint64{word(l, m, layout.Mask), word(l, m, layout.IdleP), word(l, m, layout.IdlePs)}
	if want := [...]uint64{mask, first, many}; got != want {
		t.Errorf("Mask, IdleP, IdlePs: %d, want %d", got, want)
	}
}

// lists holds the list against what it should be; to look at it is no access.
func lists(t *testing.T, l *layout.Layout, m *cell.Mem, right bool, want ...int) {
	t.Helper()
	clock := m.Clock()
	if got, is := idlep.List(l, m); is != right || !slices.Equal(got, want) {
		t.Errorf("List: %v, %v, want %v, %v", got, is, want, right)
	}
	if m.Clock() != clock {
		t.Errorf("List did %d accesses", m.Clock()-clock)
	}
}

// stale lets each word be what it must not be taken for, but the list's own, which are 0.
func stale(l *layout.Layout, m *cell.Mem) {
	for at := range l.Len() {
		m.Store(0, at, 7)
	}
	for _, w := range []int{layout.Mask, layout.IdleP, layout.IdlePs} {
		m.Store(0, l.Word(w), 0)
	}
}

// bit is 2 to a number, worked out by doubling; 0, of one that is not from 0 to 63.
func bit(p int) uint64 {
	if p < 0 || p > 63 {
		return 0
	}
	w := uint64(1)
	for range p {
		w *= 2
	}
	return w
}

// bits are the bits of some.
func bits(ps []int) uint64 {
	w := uint64(0)
	for _, p := range ps {
		w |= bit(p)
	}
	return w
}

// Promise 17.2: the bits of all processors, and none of those below 0 and beyond 63.
func TestBit(t *testing.T) {
	for p := -200; p < 200; p++ {
		if got := idlep.Bit(p); got != bit(p) {
			t.Errorf("Bit(%d): %x, want %x", p, got, bit(p))
		}
	}
	for _, p := range none {
		if got := idlep.Bit(p); got != 0 {
			t.Errorf("Bit(%d): %x", p, got)
		}
	}
}

// Promise 17.2: a word has just those bits that it is made of.
func TestMasked(t *testing.T) {
	for _, w := range []uint64{0, 1, 5, 1 << 31, 1 << 32, 1 << 63, 1<<63 + 9, math.MaxUint64, 0xaaaaaaaaaaaaaaaa, 0x5555555555555555} {
		for p := range 64 {
			if got, want := idlep.Masked(w, p), w/bit(p)%2 == 1; got != want {
				t.Errorf("Masked(%x, %d): %v", w, p, got)
			}
		}
		for _, p := range none {
			if idlep.Masked(w, p) {
				t.Errorf("Masked(%x, %d)", w, p)
			}
		}
	}
}

// piles are lists, the first one first.
var piles = [][]int{nil, {0}, {procs - 1}, {31, 32}, {5, 0}, {63, 2, 40}, {1, 2, 3, 4, 5, 6, 7, 8}}

// pile lets processors lie on the list, the first one first, among words that are stale.
func pile(t *testing.T, ps []int) (*layout.Layout, *cell.Mem) {
	t.Helper()
	l, m := lay(t)
	stale(l, m)
	for i := len(ps) - 1; i >= 0; i-- {
		put(t, l, m, ps[i])
	}
	words(t, l, m, bits(ps), first(ps), uint64(len(ps)))
	lists(t, l, m, true, ps...)
	return l, m
}

// first is the first one as a word.
func first(ps []int) uint64 {
	if len(ps) == 0 {
		return 0
	}
	return uint64(ps[0]) + 1
}

// Promises 17.1 and 17.2: a Put on a list that is empty, of one, and of several, access by access; Mask, IdleP, IdlePs and Holds behind each.
func TestPut(t *testing.T) {
	for _, who := range whos {
		for _, ps := range piles {
			for _, p := range []int{10, 30, 62} {
				l, m := pile(t, ps)
				before := m.Words()
				was, lead, many := bits(ps), first(ps), uint64(len(ps))
				x := idlep.New(l, who, p)
				holds(t, x, p)
				acts.Step(t, m, x, who, acts.Load(l.Word(layout.Mask)), false)
				words(t, l, m, was, lead, many)
				holds(t, x, p)
				acts.Step(t, m, x, who, acts.Store(l.Word(layout.Mask), was+bit(p)), false)
				words(t, l, m, was+bit(p), lead, many)
				holds(t, x, p)
				acts.Step(t, m, x, who, acts.Load(l.Word(layout.IdleP)), false)
				holds(t, x, p)
				acts.Step(t, m, x, who, acts.Store(l.Proc(p, layout.PLink), lead), false)
				words(t, l, m, was+bit(p), lead, many)
				holds(t, x, p)
				acts.Step(t, m, x, who, acts.Store(l.Word(layout.IdleP), uint64(p)+1), false)
				words(t, l, m, was+bit(p), uint64(p)+1, many)
				holds(t, x, api.None)
				acts.Step(t, m, x, who, acts.Add(l.Word(layout.IdlePs), 1), true)
				holds(t, x, api.None)
				acts.Rests(t, m, x)
				holds(t, x, api.None)
				words(t, l, m, was+bit(p), uint64(p)+1, many+1)
				acts.Changed(t, m, before, map[int]uint64{
					l.Word(layout.Mask): was + bit(p), l.Word(layout.IdleP): uint64(p) + 1, l.Word(layout.IdlePs): many + 1,
					l.Proc(p, layout.PLink): lead,
				})
				lists(t, l, m, true, append([]int{p}, ps...)...)
				if m.Bad() != 0 {
					t.Errorf("bad: %d", m.Bad())
				}
			}
		}
	}
}

// Promise 17.1: a Get from a list of one, and of several, access by access; Mask, IdleP, IdlePs and P behind each.
func TestGet(t *testing.T) {
	for _, who := range whos {
		for _, ps := range piles[1:] {
			l, m := pile(t, ps)
			before := m.Words()
			p, was, many := ps[0], bits(ps), uint64(len(ps))
			rest := first(ps[1:])
			x := idlep.NewGet(l, who)
			is(t, x, api.None)
			acts.Step(t, m, x, who, acts.Load(l.Word(layout.IdleP)), false)
			is(t, x, api.None)
			acts.Step(t, m, x, who, acts.Load(l.Proc(p, layout.PLink)), false)
			is(t, x, api.None)
			acts.Step(t, m, x, who, acts.Load(l.Word(layout.Mask)), false)
			words(t, l, m, was, first(ps), many)
			is(t, x, api.None)
			acts.Step(t, m, x, who, acts.Store(l.Word(layout.Mask), was-bit(p)), false)
			words(t, l, m, was-bit(p), first(ps), many)
			is(t, x, api.None)
			acts.Step(t, m, x, who, acts.Store(l.Word(layout.IdleP), rest), false)
			words(t, l, m, was-bit(p), rest, many)
			is(t, x, p)
			acts.Step(t, m, x, who, acts.Add(l.Word(layout.IdlePs), less), true)
			is(t, x, p)
			acts.Rests(t, m, x)
			is(t, x, p)
			words(t, l, m, was-bit(p), rest, many-1)
			acts.Changed(t, m, before, map[int]uint64{
				l.Word(layout.Mask): was - bit(p), l.Word(layout.IdleP): rest, l.Word(layout.IdlePs): many - 1,
			})
			lists(t, l, m, true, ps[1:]...)
			if m.Bad() != 0 {
				t.Errorf("bad: %d", m.Bad())
			}
		}
	}
}

// Promise 17.1: a Get from an empty list loads IdleP, and gets none; IdleP alone tells whether there is one.
func TestGetNone(t *testing.T) {
	for _, who := range whos {
		l, m := pile(t, nil)
		m.Store(0, l.Word(layout.Mask), 9)
		m.Store(0, l.Word(layout.IdlePs), 2)
		before := m.Words()
		x := idlep.NewGet(l, who)
		is(t, x, api.None)
		acts.Step(t, m, x, who, acts.Load(l.Word(layout.IdleP)), true)
		is(t, x, api.None)
		acts.Rests(t, m, x)
		is(t, x, api.None)
		acts.Changed(t, m, before, nil)
	}
}

// Promise 17.1: a bit that is there already stays, and one that is not there does not come by a Get.
func TestBitsAsTheyAre(t *testing.T) {
	l, m := lay(t)
	m.Store(0, l.Word(layout.Mask), math.MaxUint64)
	put(t, l, m, 5)
	words(t, l, m, math.MaxUint64, 6, 1)
	acts.All(t, m, idlep.NewGet(l, 0))
	words(t, l, m, math.MaxUint64-bit(5), 0, 0)
	put(t, l, m, 7)
	m.Store(0, l.Word(layout.Mask), bit(8)+bit(6))
	acts.All(t, m, idlep.NewGet(l, 0))
	words(t, l, m, bit(8)+bit(6), 0, 0)
}

// Promise 17.1: IdlePs goes round at 2^32, up and down, whatever it is beyond.
func TestIdlePsGoesRound(t *testing.T) {
	for _, x := range []struct{ was, put, got uint64 }{
		{0, 1, less}, {1, 2, 0}, {round - 1, 0, round - 2}, {round, 1, round - 1}, {round + 5, 6, 4}, {math.MaxUint64, 0, round - 2},
	} {
		l, m := lay(t)
		m.Store(0, l.Word(layout.IdlePs), x.was)
		put(t, l, m, 3)
		words(t, l, m, 8, 4, x.put)
		m.Store(0, l.Word(layout.IdlePs), x.was)
		acts.All(t, m, idlep.NewGet(l, 0))
		words(t, l, m, 0, 0, x.got)
	}
}

// Promise 17.1: a processor that there is not has no Link: that store is bad; its bit is that of its number, if it has one.
func TestPutNoSuch(t *testing.T) {
	for _, p := range none {
		l, m := lay(t)
		put(t, l, m, 4)
		x := idlep.New(l, 2, p)
		holds(t, x, p)
		acts.Step(t, m, x, 2, acts.Load(l.Word(layout.Mask)), false)
		acts.Step(t, m, x, 2, acts.Store(l.Word(layout.Mask), 16), false)
		acts.Step(t, m, x, 2, acts.Load(l.Word(layout.IdleP)), false)
		holds(t, x, p)
		acts.Step(t, m, x, 2, acts.Store(api.None, 5), false)
		acts.Step(t, m, x, 2, acts.Store(l.Word(layout.IdleP), uint64(p)+1), false)
		holds(t, x, api.None)
		acts.Step(t, m, x, 2, acts.Add(l.Word(layout.IdlePs), 1), true)
		if m.Bad() != 1 {
			t.Errorf("put of %d: bad %d", p, m.Bad())
		}
		lists(t, l, m, p == -1) // the word of -1 is 0: none
	}
	l, m := layOf(t, 3)
	put(t, l, m, 3)
	words(t, l, m, 8, 4, 1)
	lists(t, l, m, false)
}

// Promise 17.1: an IdleP that is no processor, and not 0, is got; its Link is at no place, and its bit that of its number, if it has one.
func TestGetNoSuch(t *testing.T) {
	for _, w := range wrong {
		l, m := lay(t)
		put(t, l, m, 4)
		m.Store(0, l.Word(layout.IdleP), w)
		x := idlep.NewGet(l, 2)
		acts.Step(t, m, x, 2, acts.Load(l.Word(layout.IdleP)), false)
		acts.Step(t, m, x, 2, acts.Load(api.None), false)
		acts.Step(t, m, x, 2, acts.Load(l.Word(layout.Mask)), false)
		acts.Step(t, m, x, 2, acts.Store(l.Word(layout.Mask), 16), false)
		is(t, x, api.None)
		acts.Step(t, m, x, 2, acts.Store(l.Word(layout.IdleP), 0), false)
		is(t, x, int(w-1))
		acts.Step(t, m, x, 2, acts.Add(l.Word(layout.IdlePs), less), true)
		is(t, x, int(w-1))
	}
	l, m := layOf(t, 3)
	m.Store(0, l.Word(layout.Mask), 31)
	m.Store(0, l.Word(layout.IdleP), 5)
	x := idlep.NewGet(l, 2)
	acts.All(t, m, x)
	is(t, x, 4)
	words(t, l, m, 15, 0, less)
}

// Promise 17.1: what others store between two steps is what is loaded behind it; what was loaded ahead of it is what is stored.
func TestOthersBetween(t *testing.T) {
	l, m := lay(t)
	put(t, l, m, 1)
	x := idlep.New(l, 0, 4)
	m.Store(9, l.Word(layout.Mask), 1)
	x.Step(m)
	m.Store(9, l.Word(layout.Mask), 128)
	acts.Step(t, m, x, 0, acts.Store(l.Word(layout.Mask), 17), false)
	m.Store(9, l.Word(layout.IdleP), 8)
	x.Step(m)
	m.Store(9, l.Word(layout.IdleP), 9)
	acts.Step(t, m, x, 0, acts.Store(l.Proc(4, layout.PLink), 8), false)
	acts.Step(t, m, x, 0, acts.Store(l.Word(layout.IdleP), 5), false)
	m.Store(9, l.Word(layout.IdlePs), 40)
	acts.Step(t, m, x, 0, acts.Add(l.Word(layout.IdlePs), 1), true)
	words(t, l, m, 17, 5, 41)

	g := idlep.NewGet(l, 0)
	m.Store(9, l.Word(layout.IdleP), 3)
	g.Step(m)
	m.Store(9, l.Word(layout.IdleP), 4)
	m.Store(9, l.Proc(2, layout.PLink), 11)
	acts.Step(t, m, g, 0, acts.Load(l.Proc(2, layout.PLink)), false)
	m.Store(9, l.Proc(2, layout.PLink), 12)
	m.Store(9, l.Word(layout.Mask), 7)
	g.Step(m)
	m.Store(9, l.Word(layout.Mask), 128)
	acts.Step(t, m, g, 0, acts.Store(l.Word(layout.Mask), 3), false)
	acts.Step(t, m, g, 0, acts.Store(l.Word(layout.IdleP), 11), false)
	is(t, g, 2)
	m.Store(9, l.Word(layout.IdlePs), 40)
	acts.Step(t, m, g, 0, acts.Add(l.Word(layout.IdlePs), less), true)
	words(t, l, m, 3, 11, 39)
}

// Promise 17.2: a list in which one comes twice may not be; each one ahead of that is told once.
func TestListTwice(t *testing.T) {
	for _, x := range []struct {
		next []int // who comes behind whom, from the first one on; the last one is the one that comes again
		want []int
	}{
		{[]int{0, 0}, []int{0}},
		{[]int{procs - 1, 0, procs - 1}, []int{procs - 1, 0}},
		{[]int{4, 1, 3, 1}, []int{4, 1, 3}},
		{[]int{4, 1, 3, 3}, []int{4, 1, 3}},
	} {
		l, m := lay(t)
		at := l.Word(layout.IdleP)
		for _, p := range x.next {
			m.Store(0, at, uint64(p)+1)
			at = l.Proc(p, layout.PLink)
		}
		lists(t, l, m, false, x.want...)
	}
	l, m := lay(t)
	put(t, l, m, 6, 2, 6) // one that lies there is put once more
	words(t, l, m, bit(6)+bit(2), 7, 3)
	lists(t, l, m, false, 6, 2)
}

// Promise 17.2: a list in which there is no such one may not be; those ahead of it are told. Neither IdlePs nor Mask is asked.
func TestListNoSuch(t *testing.T) {
	for _, w := range wrong {
		l, m := lay(t)
		m.Store(0, l.Word(layout.IdleP), w)
		lists(t, l, m, false)
		m.Store(0, l.Word(layout.IdleP), 4)
		lists(t, l, m, true, 3)
		m.Store(0, l.Proc(3, layout.PLink), procs)
		m.Store(0, l.Proc(procs-1, layout.PLink), w)
		lists(t, l, m, false, 3, procs-1)
	}
	l, m := layOf(t, 3)
	m.Store(0, l.Word(layout.IdleP), 3)
	lists(t, l, m, true, 2)
	m.Store(0, l.Proc(2, layout.PLink), 4)
	lists(t, l, m, false, 2)
}

// R3: an answer that is changed changes nothing.
func TestListIsNew(t *testing.T) {
	l, m := lay(t)
	put(t, l, m, 5, 9, 1)
	got, _ := idlep.List(l, m)
	clear(got)
	lists(t, l, m, true, 1, 9, 5)
}

// R1 and promises 17.1 and 17.2: no machine is done, and its steps do nothing; it holds, and got, none.
func TestNoMachine(t *testing.T) {
	_, m := lay(t)
	var x *idlep.Put
	var g *idlep.Get
	acts.Rests(t, m, x)
	acts.Rests(t, m, g)
	holds(t, x, api.None)
	is(t, g, api.None)
	acts.Rests(t, m, &idlep.Put{})
	acts.Rests(t, m, &idlep.Get{})
	holds(t, &idlep.Put{}, api.None)
	is(t, &idlep.Get{}, api.None)
}

// Machines and lists without a memory, or without a layout, do not panic.
func TestNoMemoryNoLayout(t *testing.T) {
	l, m := lay(t)
	for _, x := range []acts.Machine{idlep.New(l, 0, 1), idlep.NewGet(l, 0)} {
		x.Step(nil)
		x.Done()
	}
	before := m.Words()
	for _, x := range []acts.Machine{idlep.New(nil, 0, 1), idlep.NewGet(nil, 0)} {
		for range 8 {
			x.Step(m)
			x.Done()
		}
	}
	acts.Changed(t, m, before, nil)
	idlep.List(l, nil)
	idlep.List(nil, m)
	idlep.List(nil, nil)
}
