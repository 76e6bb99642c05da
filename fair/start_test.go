package fair_test

import (
	"math"
	"testing"

	"turnspit/api"
	"turnspit/fair"
	"turnspit/plays"
	"turnspit/world"
)

// computes are so many InComputes of 16 steps.
func computes(many int) []uint64 {
	var words []uint64
	for range many {
		words = append(words, 8*15+api.InCompute)
	}
	return words
}

// busy are the words of some programs that never let the others be: they compute for long, and spawn again and again.
func busy(r *plays.Roll) []uint64 {
	words := append([]uint64{10, 18, 26, 10}, computes(r.Below(40))...)
	for range 3 {
		words = append(words, 7)
		words = append(words, computes(r.Below(60))...)
		for range r.Below(4) {
			words = append(words, uint64(1+r.Below(6)+8*r.Below(30)))
		}
		words = append(words, 18, uint64(2+8*r.Below(4)), 26)
	}
	return words
}

// draws are draws of which some lists are all alike.
func draws(r *plays.Roll) []uint64 {
	switch r.Below(4) {
	case 0:
		return nil
	case 1:
		return make([]uint64, 500)
	case 2:
		l := make([]uint64, 4000)
		for i := range l {
			l[i] = math.MaxUint64
		}
		return l
	}
	return r.Draws()
}

// shuffled is a round in any order, with some entries more.
func shuffled(r *plays.Roll, c api.Config) []api.Entry {
	l := fair.Round(c)
	for range r.Below(2 * len(l)) {
		l = append(l, l[r.Below(len(l))])
	}
	for i := range l {
		j := r.Below(i + 1)
		l[i], l[j] = l[j], l[i]
	}
	return l
}

// starts are how many events of a world's log are EvStart.
func starts(x *world.World) int {
	n := 0
	for _, e := range x.Log() {
		if e.Kind == api.EvStart {
			n++
		}
	}
	return n
}

// rounds goes on for so many rounds.
func rounds(x *world.World, r *plays.Roll, many int) {
	for range many {
		l := fair.Round(x.Config())
		if r != nil {
			l = shuffled(r, x.Config())
		}
		for _, e := range l {
			x.Do(e)
		}
	}
}

// configs are the most that configs of worlds have here.
func configs() []api.Config {
	return []api.Config{{Procs: 1, Threads: 2, Gs: 5}, {Procs: 4, Threads: 7, Gs: 30}, {Procs: 2, Threads: 3, Gs: 256}, {Procs: 6, Threads: 12, Gs: 256}}
}

// Promise 32.3, P4: round after round, in whatever order, and whatever the draws are, somebody starts as long as anybody is runnable, and each one that is runnable starts; in far less rounds than the bound allows.
func TestEverybodyStarts(t *testing.T) {
	const (
		some = 1000 // rounds within which somebody starts: a full ring gives half of itself away in some hundreds
		all  = 40   // so often as many, everybody does
	)
	waited := 0
	for seed := range uint64(160) {
		r := plays.New(seed + 8000)
		c := r.Config(configs()[seed%4])
		words := r.Words()
		if seed%3 > 0 {
			words = busy(r)
		}
		x := open(t, c, words, draws(r))
		order := r
		if seed%5 == 0 {
			order = nil
		}
		for range 3 {
			rounds(x, order, r.Below(200))
			late, from := fair.Runnable(x), len(x.Log())
			waited += len(late)
			for n := 0; len(late) > 0; n++ {
				before := starts(x)
				rounds(x, order, some)
				if n == all || starts(x) == before {
					t.Fatalf("seed %d: %v are runnable, and do not start: %d others did", seed, late, starts(x)-before)
				}
				late = fair.Late(x, late, from)
			}
		}
	}
	if waited < 1000 {
		t.Errorf("few were runnable: %d", waited)
	}
}

// Promise 32.3: the entries within which all start are less than the bound of their window.
func TestWithinBound(t *testing.T) {
	for seed := range uint64(20) {
		r := plays.New(seed + 8500)
		c := r.Config(configs()[seed%4])
		x := open(t, c, busy(r), draws(r))
		rounds(x, r, 100)
		late, from := fair.Runnable(x), len(x.Log())
		var l []api.Entry
		for len(late) > 0 {
			more := shuffled(r, c)
			for _, e := range more {
				x.Do(e)
			}
			l = append(l, more...)
			late = fair.Late(x, late, from)
		}
		if l == nil {
			continue
		}
		w := fair.Window(c, l)
		if bound, e := fair.Bound(c, w); e != api.OK || len(l) > bound || w > 6*len(fair.Round(c)) {
			t.Errorf("seed %d: %d entries, their window %d, the bound %d, %v", seed, len(l), w, bound, e)
		}
	}
}

// Where the clock never goes on, it is not fair: who computes on and on keeps all others from starting.
func TestNotFair(t *testing.T) {
	words := append([]uint64{10}, computes(2000)...)
	words = append(words, 7)
	x := open(t, api.Config{Procs: 1, Threads: 2, Gs: 2}, words, nil)
	l := without(fair.Round(x.Config()), ticks())
	for range 20000 {
		for _, e := range l {
			x.Do(e)
		}
	}
	if late := fair.Late(x, []int{0, 1}, 0); len(late) != 1 || late[0] != 1 || fair.Right(x.Config(), l) {
		t.Errorf("late: %v", late)
	}
	rounds(x, nil, 200)
	if late := fair.Late(x, []int{0, 1}, 0); len(late) != 0 {
		t.Errorf("behind fair rounds %v are late", late)
	}
}
