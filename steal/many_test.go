package steal_test

import (
	"slices"
	"testing"

	"turnspit/api"
	"turnspit/cell"
	"turnspit/layout"
	"turnspit/rget"
	"turnspit/ring"
	"turnspit/rput"
	"turnspit/steal"
)

// owner has a processor: it puts what is in its hand into its ring, gets some out, and steals from others where it has none.
type owner struct {
	p     int
	put   *rput.Put
	get   *rget.Get
	steal *steal.Steal
	from  int // from whom it steals
	hand  []int

	stole, failed int // how many Steals stole some, or none
	several       int // how many stole more than one
	nexts         int // how many stole a next one
}

// step does a step; it begins what a roll says, if it does nothing yet.
func (x *owner) step(l *layout.Layout, m *cell.Mem, busy bool, roll uint64) {
	switch {
	case x.put != nil:
		if x.put.Step(m) {
			x.put = nil
		}
	case x.get != nil:
		if x.get.Step(m) {
			x.keepGot(l, roll)
		}
	case x.steal != nil:
		x.stepSteal(l, m)
	case len(x.hand) > 0 && (busy && roll%16 > 0 || roll%16 == 1):
		x.put = rput.New(l, x.p, x.p, x.hand[0], roll/16%3 == 0)
		x.hand = x.hand[1:]
	case !busy || roll%16 == 0: // a busy one that always gets would leave no time to steal
		x.get = rget.New(l, x.p, x.p, roll/16%3 == 0)
	}
}

// keepGot keeps what was got; if there was none, it steals.
func (x *owner) keepGot(l *layout.Layout, roll uint64) {
	if g := x.get.G(); g != api.None {
		x.hand = append(x.hand, g)
	} else {
		x.from = (x.p + 1 + int(roll/16%(procs-1))) % procs
		x.steal = steal.New(l, x.p, x.p, x.from, roll/64%2 == 0)
	}
	x.get = nil
}

// stepSteal does a step of a Steal, and keeps the goroutine, once it is done.
func (x *owner) stepSteal(l *layout.Layout, m *cell.Mem) {
	had := x.steal.G()
	done := x.steal.Step(m)
	if g := x.steal.G(); had == api.None && g != api.None {
		x.stole++
		if len(x.steal.Holds()) > 1 {
			x.several++
		}
		if m.Last().At == l.Proc(x.from, layout.Next) {
			x.nexts++
		}
	}
	if !done {
		return
	}
	if x.steal.G() == api.None {
		x.failed++
	}
	x.hand = append(x.hand, x.steal.Holds()...)
	x.steal = nil
}

// has are all that are in its hand.
func (x *owner) has() []int {
	has := slices.Concat(x.hand, x.put.Holds(), x.steal.Holds())
	if g := x.get.G(); g != api.None {
		has = append(has, g)
	}
	return has
}

// eachInOnePlace looks for all goroutines in rings and hands.
func eachInOnePlace(t *testing.T, l *layout.Layout, m *cell.Mem, owners []*owner, many int) {
	t.Helper()
	found := make([]int, many)
	for _, x := range owners {
		lie, right := ring.Gs(l, m, x.p)
		if !right {
			t.Errorf("the ring of %d: %v", x.p, lie)
		}
		for _, g := range slices.Concat(lie, x.has()) {
			if g < 0 || g >= many {
				t.Errorf("goroutine %d, of %d", g, many)
				return
			}
			found[g]++
		}
	}
	for g, n := range found {
		if n != 1 {
			t.Errorf("goroutine %d is in %d places", g, n)
		}
	}
}

// Promises 16.2 and 16.3: however owners, who put, get and steal, go on between one another, each goroutine is at each step in just one place: a ring, or a hand.
func TestEachInOnePlace(t *testing.T) {
	var all []*owner
	for _, many := range []int{1, 2, 3, 5, 12, 60, api.RingSize} {
		l, m := lay(t)
		var owners []*owner
		for p := range procs {
			owners = append(owners, &owner{p: p})
			lie(l, m, p, round-uint64(100*p+30), nil, 0)
		}
		for g := range many {
			owners[0].hand = append(owners[0].hand, g)
		}
		roll := uint64(many)
		for n := range 40000 {
			roll = roll*6364136223846793005 + 1442695040888963407
			busy := owners[n/5000%procs]
			x := owners[roll>>33%procs]
			if x != busy { // what it has is put by the busy one, so that rings fill up, from which others steal
				busy.hand = append(busy.hand, x.hand...)
				x.hand = nil
			}
			x.step(l, m, x == busy, roll>>40)
			if n%4 == 0 || many < 60 {
				eachInOnePlace(t, l, m, owners, many)
			}
			if t.Failed() {
				t.Fatalf("%d goroutines, step %d", many, n)
			}
		}
		if m.Bad() != 0 {
			t.Errorf("bad: %d", m.Bad())
		}
		all = append(all, owners...)
	}
	didAll(t, all)
}

// didAll asks whether enough was stolen, so that the test tells anything.
func didAll(t *testing.T, owners []*owner) {
	t.Helper()
	var did owner
	for _, x := range owners {
		did.stole += x.stole
		did.failed += x.failed
		did.several += x.several
		did.nexts += x.nexts
	}
	if did.stole < 500 || did.failed < 500 || did.several < 100 || did.nexts < 50 {
		t.Errorf("%d stole, %d more than one, %d a next one; %d failed", did.stole, did.several, did.nexts, did.failed)
	}
}

// rival is who steals from a ring, or gets out of it: what it has in its hand, and how it goes on.
type rival struct {
	step func(m *cell.Mem) bool
	has  func() []int
}

// thief is one who steals from processor 0, for p.
func thief(l *layout.Layout, p int) rival {
	x := steal.New(l, p, p, 0, true)
	return rival{x.Step, x.Holds}
}

// getter is the owner of processor 0, who gets, afresh or not.
func getter(l *layout.Layout, fresh bool) rival {
	x := rget.New(l, 0, 0, fresh)
	return rival{x.Step, func() []int {
		if x.G() == api.None {
			return nil
		}
		return []int{x.G()}
	}}
}

// Promise 16.3: a thief, and another one, or the owner, who gets: in whatever order their steps come, each goroutine is had by one of them, or lies in a ring.
func TestAllOrders(t *testing.T) {
	for n := range 4 {
		l, m := lay(t)
		lie(l, m, 0, 255, rising(1, n), uint64(n)+1)
		words := m.Words()
		for order := range 1 << 12 { // two who steal one take six steps each
			for who := range 3 {
				m, _ := cell.Of(words)
				a, b := thief(l, 1), thief(l, 2)
				if who > 0 {
					b = getter(l, who == 1)
				}
				race(t, l, m, n+1, order, a, b)
				if t.Failed() {
					t.Fatalf("%d lie there, order %b, rival %d", n, order, who)
				}
			}
		}
	}
}

// race lets two go on between one another in this order, and then each until it is done.
func race(t *testing.T, l *layout.Layout, m *cell.Mem, many, order int, a, b rival) {
	t.Helper()
	done := [2]bool{}
	for i := 0; !done[0] || !done[1]; i++ {
		which := order >> i % 2
		if i >= 12 && done[0] {
			which = 1
		}
		done[which] = [...]rival{a, b}[which].step(m)
		allThere(t, l, m, many, append(a.has(), b.has()...))
		if t.Failed() || i > 100 {
			t.Errorf("step %d", i)
			return
		}
	}
}

// allThere holds all that lie in rings, or are had, against the goroutines from 0 on.
func allThere(t *testing.T, l *layout.Layout, m *cell.Mem, many int, got []int) {
	t.Helper()
	for p := range procs {
		lie, _ := ring.Gs(l, m, p)
		got = append(got, lie...)
	}
	slices.Sort(got)
	if !slices.Equal(got, numbers(rising(1, many))) {
		t.Errorf("there are %v", got)
	}
}
