package rget_test

import (
	"slices"
	"testing"

	"turnspit/api"
	"turnspit/cell"
	"turnspit/layout"
	"turnspit/rget"
	"turnspit/ring"
	"turnspit/rput"
)

// put puts a goroutine into the ring of processor 0.
func put(t *testing.T, l *layout.Layout, m *cell.Mem, g int, next bool) {
	t.Helper()
	all(t, m, rput.New(l, 0, 0, g, next))
}

// get gets a goroutine out of the ring of processor 0, which should be this one.
func get(t *testing.T, l *layout.Layout, m *cell.Mem, fresh bool, g int, inherits bool) {
	t.Helper()
	x := rget.New(l, 0, 0, fresh)
	all(t, m, x)
	tells(t, x, g, inherits)
}

// Promise 15.2: what is put, not as the next one, comes in its order, however many Puts and Gets come one behind the other, afresh or not.
func TestOrder(t *testing.T) {
	for _, head := range []uint64{0, 200, round - 100} {
		l, m := lay(t)
		lie(l, m, 0, head, nil, 0)
		var want []int
		roll, given, full, empty := uint64(5), 0, 0, 0
		for n := range 8000 {
			roll = roll*6364136223846793005 + 1442695040888963407
			puts := roll>>33%8 < 6
			if n/1000%2 == 1 {
				puts = !puts
			}
			fresh := roll>>50%2 == 0
			switch {
			case puts && len(want) == api.RingSize:
				full++
			case puts:
				put(t, l, m, given%gs, false)
				want = append(want, given%gs)
				given++
			case len(want) == 0:
				get(t, l, m, fresh, api.None, false)
				empty++
			default:
				get(t, l, m, fresh, want[0], false)
				want = want[1:]
			}
			if got, right := ring.Gs(l, m, 0); !right || !slices.Equal(got, want) || t.Failed() {
				t.Fatalf("step %d: %v, %v, want %v", n, got, right, want)
			}
		}
		if full < 5 || empty < 5 || m.Bad() != 0 {
			t.Errorf("%d times full, %d empty; bad %d", full, empty, m.Bad())
		}
	}
}

// Promise 15.2: of the next one and the ring not afresh the next one comes first, afresh the ring.
func TestWhichIsFirst(t *testing.T) {
	for n := range 6 {
		for first := range n + 2 { // ahead of the one that is got not afresh so many are got afresh
			l, m := lay(t)
			var want []int
			for g := range n {
				put(t, l, m, g, false)
				want = append(want, g)
			}
			put(t, l, m, 300, true)
			for range min(first, n) {
				get(t, l, m, true, want[0], false)
				want = want[1:]
			}
			if first > n {
				get(t, l, m, true, 300, false)
			} else {
				get(t, l, m, false, 300, true)
			}
			for _, g := range want {
				get(t, l, m, false, g, false)
			}
			get(t, l, m, false, api.None, false)
			get(t, l, m, true, api.None, false)
		}
	}
}

// owner has a processor, and puts what is in its hand into its ring, or gets some out, as a roll says.
type owner struct {
	p        int
	put      *rput.Put
	get      *rget.Get
	hand     []int
	got      int // how many it got
	inherits int // how many of them inherit
}

// step does a step.
func (x *owner) step(l *layout.Layout, m *cell.Mem, roll uint64) {
	switch {
	case x.put != nil:
		if x.put.Step(m) {
			x.put = nil
		}
	case x.get != nil:
		if x.get.Step(m) {
			x.keep()
		}
	case len(x.hand) > 0 && roll%2 == 0:
		x.put = rput.New(l, x.p, x.p, x.hand[0], roll/2%3 == 0)
		x.hand = x.hand[1:]
	default:
		x.get = rget.New(l, x.p, x.p, roll/2%3 == 0)
	}
}

// keep keeps what was got.
func (x *owner) keep() {
	if g := x.get.G(); g != api.None {
		x.hand = append(x.hand, g)
		x.got++
	}
	if x.get.Inherits() {
		x.inherits++
	}
	x.get = nil
}

// has are all that are in its hand.
func (x *owner) has() []int {
	has := slices.Concat(x.hand, x.put.Holds())
	if g := x.get.G(); g != api.None {
		has = append(has, g)
	}
	return has
}

// thief takes what others have: the next one, or some of a ring, by a swap.
type thief struct {
	does func() // the swap that comes next; none: it begins
	hand []int
}

// step does a step.
func (x *thief) step(l *layout.Layout, m *cell.Mem, p int, roll uint64) {
	if x.does != nil {
		x.does()
		x.does = nil
		return
	}
	at := l.Proc(p, layout.Next)
	if w := m.Load(9, at); roll%3 == 0 && w != 0 {
		x.does = func() { x.swap(m, at, w, 0, []uint64{w}) }
		return
	}
	at = l.Proc(p, layout.Head)
	words, _ := ring.Words(l, m, p)
	if n := min(len(words), int(roll%5)); n > 0 {
		head := m.Load(9, at)
		x.does = func() { x.swap(m, at, head, (head+uint64(n))%round, words[:n]) }
	}
}

// swap has these, if it is swapped.
func (x *thief) swap(m *cell.Mem, at int, old, w uint64, words []uint64) {
	if !m.Swap(9, at, old, w) {
		return
	}
	for _, w := range words {
		x.hand = append(x.hand, int(w-1))
	}
}

// Promise 15.1: however owners, who put and get, and a thief go on between one another, each goroutine is at each step in just one place: a ring, or a hand.
func TestEachInOnePlace(t *testing.T) {
	const many = 24
	l, m := lay(t)
	owners := []*owner{{p: 0}, {p: 1}}
	a := &thief{}
	for g := range many {
		a.hand = append(a.hand, g)
	}
	for p := range owners {
		lie(l, m, p, round-500, nil, 0)
	}
	roll := uint64(23)
	for n := range 60000 {
		roll = roll*6364136223846793005 + 1442695040888963407
		x := owners[roll>>50%2]
		switch {
		case roll>>33%5 == 0:
			a.step(l, m, x.p, roll>>40)
		case len(a.hand) > 0 && roll>>33%5 == 1:
			x.hand = append(x.hand, a.hand[0])
			a.hand = a.hand[1:]
		default:
			x.step(l, m, roll>>40)
		}
		got, right := slices.Clone(a.hand), true
		for _, x := range owners {
			lie, is := ring.Gs(l, m, x.p)
			got, right = slices.Concat(got, lie, x.has()), right && is
		}
		slices.Sort(got)
		for g := range many {
			if !right || len(got) != many || got[g] != g {
				t.Fatalf("step %d: %v, %v", n, got, right)
			}
		}
	}
	for _, x := range owners {
		if x.got < 500 || x.inherits < 100 || x.inherits == x.got || m.Bad() != 0 {
			t.Errorf("processor %d: %d were got, of which %d inherit; bad %d", x.p, x.got, x.inherits, m.Bad())
		}
	}
}
