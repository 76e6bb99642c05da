package census_test

import (
	"math"
	"slices"
	"testing"

	"turnspit/api"
	"turnspit/census"
	"turnspit/layout"
	"turnspit/plays"
	"turnspit/world"
)

// conf is the config of most censuses here.
var conf = api.Config{Procs: 2, Threads: 2, Gs: 3}

// of is the census of events.
func of(t *testing.T, c api.Config, l []api.Event) census.Census {
	t.Helper()
	x, e := census.Of(c, l)
	if e != api.OK {
		t.Fatalf("Of %v: %v", c, e)
	}
	return x
}

// same tells whether both are the same.
func same(a, b census.Census) bool {
	return a.Kinds == b.Kinds && slices.Equal(a.Gs, b.Gs) && slices.Equal(a.Procs, b.Procs) && a.Most == b.Most && a.Now == b.Now
}

// Promise 35.1: Procs and Gs must be such as may be; how many threads there are is all one.
func TestConfigs(t *testing.T) {
	l := []api.Event{{Kind: api.EvStart}}
	for _, c := range []api.Config{
		{}, {Procs: 0, Threads: 1, Gs: 1}, {Procs: 65, Threads: 65, Gs: 1}, {Procs: -1, Gs: 1}, {Procs: 1, Gs: 0}, {Procs: 1, Gs: -1}, {Procs: 1, Gs: 65537}, {Procs: math.MaxInt, Gs: math.MaxInt}, {Procs: math.MinInt, Gs: math.MinInt},
	} {
		if x, e := census.Of(c, l); e != api.ErrArg || !same(x, census.Census{}) || x.Gs != nil || x.Procs != nil {
			t.Errorf("Of %v: %v, %v", c, x, e)
		}
	}
	for _, c := range []api.Config{{Procs: 1, Gs: 1}, {Procs: 64, Threads: -7, Gs: 65536}, {Procs: 5, Threads: 2, Gs: 3}} {
		for _, none := range [][]api.Event{nil, {}} {
			x := of(t, c, none)
			if len(x.Gs) != c.Gs || len(x.Procs) != c.Procs || x.Total() != 0 || x.Live() != 1 || x.Most != 0 || x.Now != 0 {
				t.Errorf("Of %v: %v", c, x)
			}
		}
	}
}

// Promise 35.1: what each Kind counts.
func TestKinds(t *testing.T) {
	for kind := api.EvStart; kind <= api.EvExit; kind++ {
		for n := range 6 {
			g, other, p := n%3, (n+1)%3, n%2
			want := census.Census{Gs: make([]census.Row, 3), Procs: make([]int, 2)}
			want.Kinds[kind] = 1
			switch kind {
			case api.EvStart:
				want.Gs[g].Starts, want.Procs[p], want.Now, want.Most = 1, 1, 1, 1
			case api.EvReturn:
				want.Gs[g].Returns, want.Procs[p], want.Now, want.Most = 1, 1, 1, 1
			case api.EvSpawn:
				want.Gs[other].Spawns = 1
			case api.EvYield, api.EvPreempt, api.EvPark, api.EvEnter, api.EvExit:
				want.Now = -1
			}
			x := of(t, conf, []api.Event{{Kind: kind, G: g, Other: other, Thread: 9, Proc: p}})
			if !same(x, want) || x.Total() != 1 {
				t.Errorf("of the Kind %d: %v, want %v", kind, x, want)
			}
		}
	}
	for _, kind := range []int{math.MinInt, -1, 0, 12, 1 << 32, math.MaxInt} {
		x := of(t, conf, []api.Event{{Kind: kind, G: 1, Other: 2, Proc: 1}, {Kind: kind}})
		want := census.Census{Kinds: [12]int{2}, Gs: make([]census.Row, 3), Procs: make([]int, 2)}
		if !same(x, want) || x.Total() != 2 || x.Live() != 1 {
			t.Errorf("of the Kind %d: %v", kind, x)
		}
	}
}

// Promise 35.1: goroutines and processors beyond the config's are not counted as such, but the event, and that one runs.
func TestBeyond(t *testing.T) {
	far := []int{math.MinInt, -2, api.None, 3, 1 << 32, math.MaxInt}
	for _, n := range far {
		x := of(t, conf, []api.Event{{Kind: api.EvStart, G: n, Proc: n}, {Kind: api.EvReturn, G: n, Proc: n}, {Kind: api.EvSpawn, G: n, Other: n, Proc: n}, {Kind: api.EvPark, G: n, Proc: n}})
		want := census.Census{Kinds: [12]int{1: 1, 2: 1, 6: 1, 9: 1}, Gs: make([]census.Row, 3), Procs: make([]int, 2), Most: 2, Now: 1}
		if !same(x, want) || x.Total() != 4 || x.Live() != 2 {
			t.Errorf("beyond, %d: %v", n, x)
		}
	}
	x := of(t, conf, []api.Event{{Kind: api.EvStart, G: 2, Proc: 2}, {Kind: api.EvStart, G: 3, Proc: 1}, {Kind: api.EvSpawn, G: 1, Other: 3}, {Kind: api.EvSpawn, G: 9, Other: 0}})
	if !slices.Equal(x.Gs, []census.Row{{Spawns: 1}, {}, {Starts: 1}}) || !slices.Equal(x.Procs, []int{0, 1}) {
		t.Errorf("beyond: %v", x)
	}
}

// Promise 35.1: how many ran at most, and how many run now.
func TestMost(t *testing.T) {
	letters := map[rune]int{'S': api.EvStart, 'R': api.EvReturn, 'y': api.EvYield, 'p': api.EvPreempt, 'k': api.EvPark, 'e': api.EvEnter, 'x': api.EvExit, '.': api.EvSpawn, ',': api.EvRefused, ';': api.EvReady, ':': api.EvQueue, '0': 0}
	for _, c := range []struct {
		text      string
		most, now int
	}{{"SyS", 1, 1}, {"", 0, 0}, {"SS", 2, 2}, {"S.,;:0S", 2, 2}, {"SeR", 1, 1}, {"SSyySxSSSpkR", 3, 2}, {"yS", 0, 0}, {"yySSS", 1, 1}, {"xe:", 0, -2}, {"RRRee", 3, 1}} {
		var l []api.Event
		for _, r := range c.text {
			l = append(l, api.Event{Kind: letters[r]})
		}
		if x := of(t, conf, l); x.Most != c.most || x.Now != c.now || x.Total() != len(l) {
			t.Errorf("%q: at most %d, now %d, want %d, %d", c.text, x.Most, x.Now, c.most, c.now)
		}
	}
}

// Promise 35.1: who lives.
func TestLive(t *testing.T) {
	l := []api.Event{{Kind: api.EvSpawn, Other: 1}, {Kind: api.EvSpawn, Other: 2}, {Kind: api.EvExit, G: 1}, {Kind: api.EvRefused}, {Kind: api.EvExit}, {Kind: api.EvExit}, {Kind: api.EvExit}}
	for n, want := range []int{1, 2, 3, 2, 2, 1, 0, -1} {
		if x := of(t, conf, l[:n]); x.Live() != want {
			t.Errorf("behind %d: %d live, want %d", n, x.Live(), want)
		}
	}
	if (census.Census{}).Live() != 1 || (census.Census{}).Total() != 0 {
		t.Errorf("of none: %d, %d", (census.Census{}).Live(), (census.Census{}).Total())
	}
}

// some are some events, of any Kinds.
func some(r *plays.Roll, many int) []api.Event {
	var l []api.Event
	for range r.Below(many) {
		l = append(l, api.Event{Kind: r.Below(14) - 1, G: r.Below(5) - 1, Other: r.Below(5) - 1, Thread: r.Below(3), Proc: r.Below(4) - 1})
	}
	return l
}

// Promise 35.2: the census of some events, and of others behind them, is that of all.
func TestAdd(t *testing.T) {
	for seed := range uint64(3000) {
		r := plays.New(seed)
		a, b := some(r, 30), some(r, 30)
		x, y := of(t, conf, a), of(t, conf, b)
		z, e := census.Add(x, y)
		if want := of(t, conf, slices.Concat(a, b)); e != api.OK || !same(z, want) {
			t.Fatalf("seed %d: %v, want %v", seed, z, want)
		}
	}
}

// Promise 35.2: both must have as many goroutines, and processors.
func TestAddWrong(t *testing.T) {
	configs := []api.Config{{Procs: 1, Gs: 1}, {Procs: 2, Gs: 1}, {Procs: 1, Gs: 2}, {Procs: 2, Gs: 2}}
	for i, c := range configs {
		for j, d := range configs {
			x, e := census.Add(of(t, c, []api.Event{{Kind: 1}}), of(t, d, []api.Event{{Kind: 1}}))
			if i != j && (e != api.ErrArg || !same(x, census.Census{})) || i == j && (e != api.OK || x.Now != 2) {
				t.Errorf("Add of %v and %v: %v, %v", c, d, x, e)
			}
		}
		if _, e := census.Add(of(t, c, nil), census.Census{}); e != api.ErrArg {
			t.Errorf("Add of %v and none: %v", c, e)
		}
	}
	if x, e := census.Add(census.Census{}, census.Census{Gs: []census.Row{}, Procs: []int{}}); e != api.OK || x.Total() != 0 {
		t.Errorf("Add of none: %v, %v", x, e)
	}
}

// What is handed in is not changed, and an answer shares no memory with it.
func TestArguments(t *testing.T) {
	l := []api.Event{{Kind: api.EvStart}, {Kind: api.EvSpawn, Other: 2}}
	kept := slices.Clone(l)
	a, b := of(t, conf, l), of(t, conf, l)
	z, _ := census.Add(a, b)
	z.Gs[0].Starts, z.Procs[0] = 99, 99
	if !slices.Equal(l, kept) || !same(a, of(t, conf, l)) || !same(b, of(t, conf, l)) {
		t.Errorf("changed: %v, %v, %v", l, a, b)
	}
}

// Promise 35.3: of a world's events as many run now as have the Status GRunning, never more than there are processors, and those live that are neither idle nor dead.
func TestWorlds(t *testing.T) {
	most, live := 0, 0
	for seed := range uint64(120) {
		r := plays.New(seed + 9500)
		c := r.Config(api.Config{Procs: 4, Threads: 8, Gs: 20})
		x, e := world.New(c, r.Words(), r.Draws())
		if e != api.OK {
			t.Fatalf("New: %v", e)
		}
		s := r.NewScript(c.Threads)
		sum := of(t, c, nil)
		for n := range 3000 {
			x.Do(s.Next())
			if one, is := x.Event(); is {
				sum, _ = census.Add(sum, of(t, c, []api.Event{one}))
			}
			runs, alive := statuses(x)
			if sum.Now != runs || sum.Most > c.Procs || sum.Live() != alive {
				t.Fatalf("seed %d, entry %d: %d run, %d live, want %d, %d; at most %d", seed, n, sum.Now, sum.Live(), runs, alive, sum.Most)
			}
		}
		if !same(sum, of(t, c, x.Log())) {
			t.Errorf("seed %d: %v, of all %v", seed, sum, of(t, c, x.Log()))
		}
		most, live = max(most, sum.Most), max(live, sum.Live())
	}
	if most < 4 || live < 10 {
		t.Errorf("at most %d ran, %d lived", most, live)
	}
}

// statuses are how many have the Status GRunning, and how many are neither idle nor dead.
func statuses(x *world.World) (runs, alive int) {
	for g := range x.Config().Gs {
		switch status, _ := x.Mem().Peek(x.Layout().G(g, layout.GStatus)); status {
		case api.GRunning:
			runs++
			alive++
		case api.GRunnable, api.GWaiting, api.GSyscall:
			alive++
		}
	}
	return runs, alive
}
