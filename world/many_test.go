package world_test

import (
	"slices"
	"testing"

	"turnspit/api"
	"turnspit/cell"
	"turnspit/code"
	"turnspit/draw"
	"turnspit/globq"
	"turnspit/goro"
	"turnspit/layout"
	"turnspit/mon"
	"turnspit/plays"
	"turnspit/ring"
	"turnspit/thread"
	"turnspit/world"
)

// yard is what a world is made of, moved by hand.
type yard struct {
	l       *layout.Layout
	m       *cell.Mem
	a       *goro.Arena
	threads []*thread.Thread
	mon     *mon.Mon
	log     []api.Event
}

// lay is a yard at the beginning, as the chapter says.
func lay(t *testing.T, c api.Config, words, draws []uint64) *yard {
	t.Helper()
	l, e := layout.Of(c)
	if e != api.OK {
		t.Fatalf("layout: %v", e)
	}
	all := make([]uint64, l.Len())
	for at, w := range beginning(l) {
		all[at] = w
	}
	m, _ := cell.Of(all)
	a, _ := goro.New(code.Read(words), c.Gs)
	a.Begin(0, 0)
	y := &yard{l: l, m: m, a: a, mon: mon.New(l)}
	cursor := draw.New(draws)
	for one := range c.Threads {
		y.threads = append(y.threads, thread.New(l, a, one, cursor))
	}
	return y
}

// do lets an entry happen by hand: whether something happened, and the event.
func (y *yard) do(e api.Entry) (bool, api.Event) {
	made, _ := y.m.Peek(y.l.Word(layout.Threads))
	is := uint64(e.Who) < made
	switch {
	case e.Kind == api.EnStep && is:
		did := y.threads[e.Who].Step(y.m)
		event, told := y.threads[e.Who].Event()
		if told {
			y.log = append(y.log, event)
		}
		return did, event
	case e.Kind == api.EnMon:
		y.mon.Step(y.m)
		return true, api.Event{}
	case e.Kind == api.EnTick:
		y.m.Add(len(y.threads)+1, y.l.Word(layout.Now), 1)
		return true, api.Event{}
	case e.Kind == api.EnReturn && is:
		return y.threads[e.Who].Return() == api.OK, api.Event{}
	}
	return false, api.Event{}
}

// Promises 28.1 and 28.2: a world does at each entry just what its parts do that are moved by hand.
func TestParts(t *testing.T) {
	did, not := 0, 0
	for seed := range uint64(60) {
		r := plays.New(seed)
		c := r.Config(api.Config{Procs: 4, Threads: 8, Gs: 12})
		words, draws := r.Words(), r.Draws()
		x, y := open(t, c, words, draws), lay(t, c, words, draws)
		s := r.NewScript(c.Threads)
		for n := range 4000 {
			e := s.Next()
			happened := x.Do(e)
			want, event := y.do(e)
			got, _ := x.Event()
			if happened != want || got != event || x.Mem().Clock() != y.m.Clock() || x.Mem().Last() != y.m.Last() {
				t.Fatalf("seed %d, entry %d: %v: %v, %v, want %v, %v", seed, n, e, happened, got, want, event)
			}
			if happened {
				did++
			} else {
				not++
			}
		}
		if !slices.Equal(x.Mem().Words(), y.m.Words()) || !slices.Equal(x.Log(), y.log) {
			t.Errorf("seed %d: they part", seed)
		}
		for g := range c.Gs {
			if place(x.Arena(), g) != place(y.a, g) {
				t.Errorf("seed %d: %d is at %v, want %v", seed, g, place(x.Arena(), g), place(y.a, g))
			}
		}
	}
	if did < 10000 || not < 10000 {
		t.Errorf("%d entries happened, %d did not", did, not)
	}
}

// bounds holds that no access was bad, and that nothing is more than there may be.
func bounds(t *testing.T, x *world.World) {
	t.Helper()
	l, c := x.Layout(), x.Config()
	word := func(w int) uint64 {
		n, _ := x.Mem().Peek(l.Word(w))
		return n
	}
	if x.Mem().Bad() != 0 {
		t.Errorf("bad: %d, the last one %v", x.Mem().Bad(), x.Mem().Last())
	}
	if word(layout.Spinning) > uint64(c.Procs) || word(layout.Threads) > uint64(c.Threads) || word(layout.Gs) > uint64(c.Gs) || word(layout.IdlePs) > uint64(c.Procs) {
		t.Errorf("Spinning %d, Threads %d, Gs %d, IdlePs %d", word(layout.Spinning), word(layout.Threads), word(layout.Gs), word(layout.IdlePs))
	}
	for p := range c.Procs {
		head, _ := x.Mem().Peek(l.Proc(p, layout.Head))
		tail, _ := x.Mem().Peek(l.Proc(p, layout.Tail))
		if ring.Many(head, tail) > api.RingSize || head >= round || tail >= round {
			t.Errorf("the ring of %d goes from %d to %d", p, head, tail)
		}
	}
	if t.Failed() {
		t.FailNow()
	}
}

// Promise 28.3: whatever the script, no access is bad; and what is the same is moved alike.
func TestBoundsAndSame(t *testing.T) {
	for seed := range uint64(120) {
		r := plays.New(seed + 1000)
		c := r.Config([]api.Config{{Procs: 2, Threads: 3, Gs: 3}, {Procs: 5, Threads: 9, Gs: 40}, {Procs: 64, Threads: 256, Gs: 900}}[seed%3])
		words, draws := r.Words(), r.Draws()
		x := open(t, c, words, draws)
		again := open(t, c, words, draws)
		s := r.NewScript(c.Threads)
		for range 3000 {
			e := s.Next()
			if x.Do(e) != again.Do(e) {
				t.Fatalf("seed %d: %v is done unlike", seed, e)
			}
			bounds(t, x)
		}
		if !keep(x).is(keep(again)) {
			t.Errorf("seed %d: they part", seed)
		}
	}
}

// spawns are the words of a program that spawns the next program so many times, and of that one, which ends.
func spawns(many int) []uint64 {
	words := slices.Repeat([]uint64{10}, many)
	return append(words, 7)
}

// A full ring gives Half of itself, and one more, to the queue; all that were spawned end all the same.
func TestFullRing(t *testing.T) {
	for _, c := range []api.Config{{Procs: 1, Threads: 1, Gs: 700}, {Procs: 3, Threads: 5, Gs: 65536}} {
		x := open(t, c, spawns(600), []uint64{3, 1, 4, 1, 5})
		most, queue := 0, 0
		for n := 0; len(x.Log()) < 600 && n < 100000; n++ {
			x.Do(step(0))
			if n%16 == 0 {
				words, _ := ring.Words(x.Layout(), x.Mem(), 0)
				list, _ := globq.List(x.Layout(), x.Mem())
				most, queue = max(most, len(words)), max(queue, len(list))
				bounds(t, x)
			}
		}
		if most != api.RingSize || queue < 2*(api.Half+1) {
			t.Errorf("%v: %d in the ring, %d in the queue at most", c, most, queue)
		}
		exits := 0
		for n := 0; exits < 601 && n < 100000; n++ {
			for one := range c.Threads {
				x.Do(step(one))
				if e, told := x.Event(); told && e.Kind == api.EvExit {
					exits++
				}
			}
			x.Do(watch())
		}
		bounds(t, x)
		if exits != 601 {
			t.Errorf("%v: %d ended", c, exits)
		}
	}
}

// What is more than there may be of goroutines is refused, and nothing else comes of it.
func TestRefused(t *testing.T) {
	x := open(t, api.Config{Procs: 1, Threads: 1, Gs: 3}, spawns(9), nil)
	count := map[int]int{}
	for n := 0; count[api.EvExit] < 3 && n < 5000; n++ {
		x.Do(step(0))
		if e, told := x.Event(); told {
			count[e.Kind]++
			if e.Kind == api.EvRefused && e != (api.Event{Kind: api.EvRefused, Other: api.None}) {
				t.Errorf("refused: %v", e)
			}
		}
	}
	if count[api.EvSpawn] != 2 || count[api.EvRefused] != 7 || count[api.EvExit] != 3 || x.Mem().Bad() != 0 {
		t.Errorf("events %v, bad %d", count, x.Mem().Bad())
	}
}

// Head and Tail, Turns, Now and the locks' turns go round past 2^32, and nothing comes of it.
func TestGoRound(t *testing.T) {
	for seed := range uint64(40) {
		r := plays.New(seed + 2000)
		c := r.Config(api.Config{Procs: 3, Threads: 6, Gs: 10})
		x := open(t, c, r.Words(), r.Draws())
		l, m := x.Layout(), x.Mem()
		for p := range c.Procs {
			for _, field := range []int{layout.Head, layout.Tail, layout.Turns, layout.Calls} {
				m.Store(99, l.Proc(p, field), round-1)
			}
		}
		m.Store(99, l.Proc(0, layout.Tail), 0)
		m.Store(99, l.Ring(0, round-1), 1)
		m.Store(99, l.Word(layout.Now), round-5)
		for lock := range 2 {
			m.Store(99, l.Ticket(lock), round-2)
			m.Store(99, l.Serving(lock), round-2)
		}
		s := r.NewScript(c.Threads)
		for range 6000 {
			x.Do(s.Next())
			bounds(t, x)
		}
		head, _ := m.Peek(l.Proc(0, layout.Head))
		if head > 1<<31 {
			t.Errorf("seed %d: Head is %d", seed, head)
		}
	}
}
