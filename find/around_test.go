package find_test

import (
	"math"
	"slices"
	"testing"

	"turnspit/acts"
	"turnspit/api"
	"turnspit/layout"
	"turnspit/ring"
)

// steals does a Steal of one goroutine out of q's ring, from the load of Mask on; the last step finds it.
func (y *trial) steals(q, g int) {
	y.Helper()
	head, tail := y.is(y.l.Proc(q, layout.Head)), y.is(y.proc(layout.Tail))
	y.goes(acts.Load(y.word(layout.Mask)), acts.Load(y.proc(layout.Tail)), acts.Load(y.l.Proc(q, layout.Head)), acts.Load(y.l.Proc(q, layout.Tail)))
	y.goes(acts.Load(y.l.Ring(q, head)), acts.Store(y.l.Ring(y.want.p, tail), uint64(g)+1))
	y.finds(g, false, acts.Swap(y.l.Proc(q, layout.Head), head, (head+1)%round))
}

// Promises 21.1 and 21.2: a thread that does not spin does, if twice those who spin, and the idle processors, together, are below Procs; words of 2^31 and more never let it.
func TestMaySpin(t *testing.T) {
	for _, x := range []struct {
		procs          int
		spinning, idle uint64
		may            bool
	}{
		{3, 0, 0, true}, {3, 0, 2, true}, {3, 0, 3, false}, {3, 1, 0, true}, {3, 1, 1, false}, {3, 1, 2, false}, {3, 2, 0, false}, {2, 1, 0, false}, {1, 0, 0, true}, {1, 0, 1, false}, {1, 1, 0, false},
		{64, 0, 63, true}, {64, 0, 64, false}, {64, 31, 1, true}, {64, 31, 2, false}, {64, 32, 0, false}, {64, 20, 23, true}, {64, 20, 24, false},
		{64, 1<<31 - 1, 0, false}, {64, 0, 1<<31 - 1, false}, {64, 1<<31 - 1, 1<<31 - 1, false},
		{64, 1 << 31, 0, false}, {64, 0, 1 << 31, false}, {64, 1 << 32, 0, false}, {64, 0, 1 << 32, false}, {64, less, 0, false}, {64, 0, less, false},
		{64, 1 << 63, 0, false}, {64, 1 << 63, 2, false}, {64, 1 << 31, math.MaxUint64 - 1<<32 + 1, false}, {64, 1, math.MaxUint64, false}, {64, 0, 1 << 63, false},
		{64, math.MaxUint64, 3, false}, {64, math.MaxUint64, 1, false}, {64, 1<<62 + 1<<61, 1 << 62, false},
	} {
		l, m := lay(t, x.procs)
		m.Store(99, l.Word(layout.Spinning), x.spinning)
		m.Store(99, l.Word(layout.IdlePs), x.idle)
		m.Store(99, l.Word(layout.Needs), 1)
		y := begin(t, l, m, 5, 0, false)
		y.hasNone()
		y.considers()
		if !x.may {
			y.told(0)
			y.acquires()
			y.goes(acts.Load(l.Word(layout.GlobSize)), acts.Load(l.Word(layout.Needs)))
			continue
		}
		y.spins()
		if got := y.is(l.Word(layout.Spinning)); got != x.spinning+1 || y.is(l.Word(layout.Needs)) != 0 {
			t.Errorf("Spinning: %d", got)
		}
		if x.procs > 1 {
			y.told(1)
			y.visits(false, 1)
		}
	}
}

// Promises 21.1 and 21.2: the two words are loaded one behind the other; what comes between is seen in the second one alone.
func TestMaySpinBetween(t *testing.T) {
	l, m := lay(t, 3)
	y := begin(t, l, m, 5, 0, false)
	y.hasNone()
	y.goes(acts.Load(l.Word(layout.Spinning)))
	m.Store(99, l.Word(layout.Spinning), 9)
	m.Store(99, l.Word(layout.IdlePs), 2)
	y.goes(acts.Load(l.Word(layout.IdlePs)))
	y.spins()
	y.visits(false, 1)
}

// Promise 21.1: all rings are gone through four times, each time in the order of another draw, without the own one; the next ones are looked at in the last round alone.
func TestRounds(t *testing.T) {
	// Of 5 the strides are 1 to 4: a draw is the start, and 5 times the stride's place.
	for _, spins := range []bool{false, true} {
		l, m := lay(t, 5)
		for q := range 5 {
			m.Store(99, l.Proc(q, layout.Next), 0)
		}
		y := begin(t, l, m, 5, 1, spins, 3+5*1, 1+5*3+20, 4, 2+5*2+1<<40/20*20, 77, 78)
		y.hasNone()
		if !spins {
			y.considers()
			y.spins()
		}
		y.told(1)
		y.visits(false, 3, 0, 2, 4) // 3, 0, 2, 4, 1
		y.told(2)
		y.visits(false, 0, 4, 3, 2) // 1, 0, 4, 3, 2
		y.told(3)
		y.visits(false, 4, 0, 2, 3) // 4, 0, 1, 2, 3
		y.told(4)
		y.visits(true, 2, 0, 3, 4) // 2, 0, 3, 1, 4
		y.told(4)
		y.acquires()
		y.goes(acts.Load(l.Word(layout.GlobSize)))
	}
}

// Promise 21.1: draws that are used up are noughts, and are told, too.
func TestRoundsWithoutDraws(t *testing.T) {
	l, m := lay(t, 4)
	y := begin(t, l, m, 5, 2, true, 3)
	y.hasNone()
	y.visits(false, 3, 0, 1)
	for i, last := range []bool{false, false, true} {
		y.told(2 + i)
		y.visits(last, 0, 1, 3)
	}
	y.told(4)
	y.acquires()
}

// Promise 21.1: of one processor there is no other one; four draws are told all the same, within the step ahead.
func TestRoundsOfOne(t *testing.T) {
	l, m := lay(t, 1)
	y := begin(t, l, m, 5, 0, true, 1, 2, 3, 4, 5)
	y.begins()
	y.goes(acts.Load(l.Proc(0, layout.Next)), acts.Load(l.Proc(0, layout.Head)), acts.Load(l.Proc(0, layout.Tail)))
	y.told(0)
	y.goes(acts.Load(l.Word(layout.GlobSize)))
	y.told(4)
	y.acquires()
}

// Promise 21.1: who has its bit in Mask is passed; Mask is loaded anew for each, and what others store there counts from then on.
func TestMask(t *testing.T) {
	for _, mask := range []uint64{0b1000, 0b1001, 0b1111, math.MaxUint64, math.MaxUint64 - 4, 1 << 63, 1<<63 | 2} {
		l, m := lay(t, 64)
		m.Store(99, l.Word(layout.Mask), mask)
		y := begin(t, l, m, 5, 2, true)
		y.hasNone()
		for q := range 64 {
			switch {
			case q == 2:
			case mask>>q&1 == 1:
				y.goes(acts.Load(l.Word(layout.Mask)))
			default:
				y.visits(false, q)
			}
		}
		y.told(2)
	}
	l, m := lay(t, 4)
	y := begin(t, l, m, 5, 0, true)
	y.hasNone()
	m.Store(99, l.Word(layout.Mask), 2)
	y.goes(acts.Load(l.Word(layout.Mask)))
	m.Store(99, l.Word(layout.Mask), 2|8)
	y.visits(false, 2)
	y.goes(acts.Load(l.Word(layout.Mask)))
	m.Store(99, l.Word(layout.Mask), 4)
	y.visits(false, 1)
}

// Promises 21.1 and 21.2: what lies in another one's ring is stolen in each of the rounds; no more draws are told then, and no more rings are gone through.
func TestStealsInRound(t *testing.T) {
	for at := range api.Rounds {
		for _, q := range []int{0, 2, 3} {
			l, m := lay(t, 4)
			y := begin(t, l, m, 5, 1, true)
			y.hasNone()
			for range at {
				y.visits(false, 0, 2, 3)
			}
			fill(l, m, q, 7, 6)
			for ahead := range q {
				if ahead != 1 {
					y.visits(at == api.Rounds-1, ahead)
				}
			}
			y.steals(q, 6)
			y.told(at + 1)
			if got, _ := ring.Gs(l, m, q); !slices.Equal(got, []int{7}) || m.Bad() != 0 {
				t.Errorf("the ring: %v, bad %d", got, m.Bad())
			}
		}
	}
}

// Promises 21.1 and 21.2: of several one half, rounded up, is stolen: all are in the hand until the own Tail tells of them, then the goroutine alone.
func TestStealsSeveral(t *testing.T) {
	l, m := lay(t, 3)
	fill(l, m, 2, api.None, 11, 12, 13, 14, 15)
	y := begin(t, l, m, 5, 0, false)
	y.hasNone()
	y.considers()
	y.spins()
	y.visits(false, 1)
	y.goes(acts.Load(l.Word(layout.Mask)), acts.Load(l.Proc(0, layout.Tail)), acts.Load(l.Proc(2, layout.Head)), acts.Load(l.Proc(2, layout.Tail)))
	for i := range uint64(3) {
		y.goes(acts.Load(l.Ring(2, start+i)), acts.Store(l.Ring(0, start+i), 12+i))
	}
	y.want.holds = []int{11, 12, 13}
	y.goes(acts.Swap(l.Proc(2, layout.Head), start, 1))
	y.finds(13, false, acts.Store(l.Proc(0, layout.Tail), 0))
	for p, want := range [][]int{{11, 12}, nil, {14, 15}} {
		if got, right := ring.Gs(l, m, p); !right || !slices.Equal(got, want) {
			t.Errorf("the ring of %d: %v, want %v", p, got, want)
		}
	}
}

// Promises 21.1 and 21.2: another one's next one is stolen in the last round alone.
func TestStealsNextAtLast(t *testing.T) {
	l, m := lay(t, 3)
	fill(l, m, 2, 9)
	y := begin(t, l, m, 5, 0, true)
	y.hasNone()
	for range api.Rounds - 1 {
		y.visits(false, 1, 2)
	}
	y.visits(true, 1)
	y.visits(true, 2)
	y.finds(9, false, acts.Swap(l.Proc(2, layout.Next), 10, 0))
	y.told(4)
}

// Promises 21.1 and 21.2: what is stolen in vain is not in the hand, and others' rings are gone through on.
func TestStealsInVain(t *testing.T) {
	l, m := lay(t, 3)
	fill(l, m, 1, api.None, 4)
	fill(l, m, 2, api.None, 8)
	y := begin(t, l, m, 5, 0, true)
	y.hasNone()
	y.goes(acts.Load(l.Word(layout.Mask)), acts.Load(l.Proc(0, layout.Tail)))
	for i := range uint64(api.Tries) {
		y.goes(acts.Load(l.Proc(1, layout.Head)), acts.Load(l.Proc(1, layout.Tail)), acts.Load(l.Ring(1, start+i)), acts.Store(l.Ring(0, start), y.is(l.Ring(1, start+i))))
		m.Store(99, l.Proc(1, layout.Head), (start+i+1)%round)
		m.Store(99, l.Proc(1, layout.Tail), (start+i+2)%round)
		y.goes(acts.Swap(l.Proc(1, layout.Head), (start+i)%round, (start+i+1)%round))
	}
	y.steals(2, 8)
}

// Promises 21.1 and 21.2: a word 0 in a ring is none: it is passed where it is got, and where it is stolen.
func TestNoneInRing(t *testing.T) {
	l, m := lay(t, 3)
	fill(l, m, 0, api.None, api.None)
	fill(l, m, 1, api.None, api.None)
	fill(l, m, 2, api.None, 8)
	y := begin(t, l, m, 5, 0, true)
	y.begins()
	y.goes(acts.Load(l.Proc(0, layout.Next)), acts.Load(l.Proc(0, layout.Head)), acts.Load(l.Proc(0, layout.Tail)), acts.Load(l.Ring(0, start)), acts.Swap(l.Proc(0, layout.Head), start, start+1))
	y.goes(acts.Load(l.Word(layout.GlobSize)), acts.Load(l.Word(layout.Mask)), acts.Load(l.Proc(0, layout.Tail)), acts.Load(l.Proc(1, layout.Head)), acts.Load(l.Proc(1, layout.Tail)))
	y.goes(acts.Load(l.Ring(1, start)), acts.Store(l.Ring(0, start+1), 0), acts.Swap(l.Proc(1, layout.Head), start, start+1))
	y.steals(2, 8)
}
