package fair_test

import (
	"math"
	"math/big"
	"slices"
	"testing"

	"turnspit/api"
	"turnspit/fair"
	"turnspit/layout"
	"turnspit/plays"
	"turnspit/world"
)

// step, back, watch and ticks are the entries of each kind.
func step(t int) api.Entry { return api.Entry{Kind: api.EnStep, Who: t} }
func back(t int) api.Entry { return api.Entry{Kind: api.EnReturn, Who: t} }
func watch() api.Entry     { return api.Entry{Kind: api.EnMon} }
func ticks() api.Entry     { return api.Entry{Kind: api.EnTick} }

// of is a config of so many threads.
func of(threads int) api.Config {
	return api.Config{Procs: 1, Threads: threads, Gs: 1}
}

// open is a world.
func open(t *testing.T, c api.Config, words, draws []uint64) *world.World {
	t.Helper()
	x, e := world.New(c, words, draws)
	if e != api.OK {
		t.Fatalf("New of %v: %v", c, e)
	}
	return x
}

// wrongs are configs that may not be.
func wrongs() []api.Config {
	return []api.Config{
		{}, {Procs: 0, Threads: 1, Gs: 1}, {Procs: 2, Threads: 1, Gs: 1}, {Procs: 1, Threads: 1, Gs: 0}, {Procs: 65, Threads: 65, Gs: 1}, {Procs: 1, Threads: 257, Gs: 1}, {Procs: 1, Threads: 1, Gs: 65537},
		{Procs: -1, Threads: 1, Gs: 1}, {Procs: math.MinInt, Threads: math.MinInt, Gs: math.MinInt}, {Procs: math.MaxInt, Threads: math.MaxInt, Gs: math.MaxInt},
	}
}

// Of a config that may not be: false, 0, nothing, ErrArg.
func TestWrongConfigs(t *testing.T) {
	l := []api.Entry{step(0), back(0), watch(), ticks(), step(1), back(1)}
	for _, c := range wrongs() {
		for _, list := range [][]api.Entry{nil, l} {
			if fair.Right(c, list) || fair.Window(c, list) != 0 || fair.Round(c) != nil {
				t.Errorf("%v: %v, %d, %v", c, fair.Right(c, list), fair.Window(c, list), fair.Round(c))
			}
		}
		for _, w := range []int{math.MinInt, 0, 1, math.MaxInt} {
			if b, e := fair.Bound(c, w); b != 0 || e != api.ErrArg {
				t.Errorf("Bound of %v, %d: %d, %v", c, w, b, e)
			}
		}
	}
}

// Promise 32.1: a round is EnStep of each thread, EnReturn of each, EnMon four times, EnTick.
func TestRound(t *testing.T) {
	want := []api.Entry{step(0), step(1), back(0), back(1), watch(), watch(), watch(), watch(), ticks()}
	if got := fair.Round(of(2)); !slices.Equal(got, want) {
		t.Errorf("a round: %v", got)
	}
	for _, threads := range []int{1, 7, 256} {
		c := api.Config{Procs: 1, Threads: threads, Gs: 9}
		l := fair.Round(c)
		if len(l) != 2*threads+5 || l[threads-1] != step(threads-1) || l[2*threads-1] != back(threads-1) || !fair.Right(c, l) || fair.Window(c, l) != len(l) {
			t.Errorf("a round of %d threads: %v", threads, l)
		}
		l[0] = ticks() // an answer is new each time
		if fair.Round(c)[0] != step(0) {
			t.Errorf("a round was kept")
		}
	}
}

// without are entries without one.
func without(l []api.Entry, e api.Entry) []api.Entry {
	return slices.DeleteFunc(slices.Clone(l), func(x api.Entry) bool { return x == e })
}

// Promise 32.1: entries are fair, in whatever order, if each that is wanted is among them, and only then.
func TestRight(t *testing.T) {
	r := plays.New(1)
	for _, threads := range []int{1, 2, 5, 256} {
		c := of(threads)
		wanted := slices.Compact(fair.Round(c))
		for range 5 {
			for i := range wanted {
				j := r.Below(i + 1)
				wanted[i], wanted[j] = wanted[j], wanted[i]
			}
			if !fair.Right(c, wanted) {
				t.Errorf("of %d threads, not fair: %v", threads, wanted)
			}
		}
		for _, e := range wanted {
			less := without(append(slices.Clone(wanted), wanted...), e)
			others := append(less, step(threads), back(threads), step(-1), back(-1), api.Entry{}, api.Entry{Kind: 5}, api.Entry{Kind: math.MinInt, Who: math.MaxInt})
			if fair.Right(c, less) || fair.Right(c, others) || fair.Window(c, others) != 0 {
				t.Errorf("of %d threads, fair without %v", threads, e)
			}
			if !fair.Right(c, append(others, e)) {
				t.Errorf("of %d threads, not fair with %v at the end", threads, e)
			}
		}
		if fair.Right(c, nil) || fair.Right(c, []api.Entry{}) || fair.Window(c, nil) != 0 {
			t.Errorf("nothing is fair")
		}
	}
}

// Promise 32.1: the monitor and the clock go on, whatever Who is (layer 28).
func TestWhoOfOthers(t *testing.T) {
	l := []api.Entry{step(0), {Kind: api.EnTick, Who: -4}, back(0), {Kind: api.EnMon, Who: 77}}
	if !fair.Right(of(1), l) || fair.Window(of(1), l) != 4 || fair.Window(of(1), append(l, l...)) != 4 {
		t.Errorf("not fair: %v", l)
	}
	for _, who := range []int{1, -1, math.MaxInt} {
		if fair.Right(of(1), []api.Entry{step(who), back(0), watch(), ticks()}) || fair.Right(of(1), []api.Entry{step(0), back(who), watch(), ticks()}) {
			t.Errorf("%d is 0", who)
		}
	}
}

// window is the window of entries, by trying all.
func window(c api.Config, l []api.Entry) int {
	for w := 1; w <= len(l); w++ {
		all := true
		for from := 0; from+w <= len(l) && all; from++ {
			all = fair.Right(c, l[from:from+w])
		}
		if all {
			return w
		}
	}
	return 0
}

// Promise 32.1: the window is the least number such that any so many entries are fair.
func TestWindow(t *testing.T) {
	for _, c := range []struct {
		l    []api.Entry
		want int
	}{
		{[]api.Entry{step(0), back(0), watch(), ticks()}, 4},
		{[]api.Entry{step(0), back(0), watch(), ticks(), step(0), back(0)}, 4},
		{[]api.Entry{{}, {}, step(0), back(0), watch(), ticks()}, 6},
		{[]api.Entry{step(0), back(0), watch(), ticks(), {}, {}, {}}, 7},
		{[]api.Entry{ticks(), watch(), back(0), step(0), step(0), back(0), watch(), ticks()}, 7},
		{[]api.Entry{step(0), back(0), watch()}, 0},
	} {
		if got := fair.Window(of(1), c.l); got != c.want || window(of(1), c.l) != c.want {
			t.Errorf("%v: %d, want %d", c.l, got, c.want)
		}
	}
	r := plays.New(2)
	some := map[int]int{}
	for range 4000 {
		c := of(1 + r.Below(3))
		var l []api.Entry
		for range r.Below(50) {
			l = append(l, []api.Entry{step(r.Below(4)), back(r.Below(4)), watch(), ticks(), {Kind: r.Below(7) - 1, Who: r.Below(3)}}[r.Below(5)])
		}
		got, want := fair.Window(c, l), window(c, l)
		if got != want {
			t.Fatalf("the window of %v: %d, want %d", l, got, want)
		}
		some[got]++
	}
	if len(some) < 30 {
		t.Errorf("few windows: %v", some)
	}
}

// Promise 32.1: the window of rounds, one behind the other; a long script's is told soon.
func TestWindowOfRounds(t *testing.T) {
	for _, threads := range []int{1, 2, 256} {
		l := slices.Repeat(fair.Round(of(threads)), 400)
		if got := fair.Window(of(threads), l); got != 2*threads+5 {
			t.Errorf("of %d threads: %d", threads, got)
		}
		if got := fair.Window(of(threads), append(l, l[0], l[0])); got != 2*threads+5+1 {
			t.Errorf("of %d threads, and two more: %d", threads, got)
		}
	}
}

// Promise 32.1: the bound, up to 2^62, and beyond.
func TestBound(t *testing.T) {
	if b, e := fair.Bound(api.Config{Procs: 2, Threads: 3, Gs: 4}, 3); b != 3*61*260<<32 || e != api.OK {
		t.Errorf("Bound: %d, %v", b, e)
	}
	limit := new(big.Int).Lsh(big.NewInt(1), 62)
	for _, gs := range []int{1, 2, 100, 256, 65535, 65536} {
		c := api.Config{Procs: 1, Threads: 9, Gs: gs}
		last := (1 << 30) / (61 * (gs + 256))
		for _, w := range []int{math.MinInt, -1, 0, 1, 2, last - 1, last, last + 1, last + 2, 1 << 30, 1 << 32, 1 << 40, math.MaxInt} {
			want := new(big.Int).Mul(big.NewInt(int64(w)), big.NewInt(61*int64(gs+256)))
			want.Lsh(want, 32)
			b, e := fair.Bound(c, w)
			switch {
			case w < 1:
				if b != 0 || e != api.ErrArg {
					t.Errorf("Bound of %d, %d: %d, %v", gs, w, b, e)
				}
			case want.Cmp(limit) > 0:
				if b != 0 || e != api.ErrLong {
					t.Errorf("Bound of %d, %d: %d, %v", gs, w, b, e)
				}
			default:
				if big.NewInt(int64(b)).Cmp(want) != 0 || e != api.OK {
					t.Errorf("Bound of %d, %d: %d, %v, want %v", gs, w, b, e, want)
				}
			}
		}
	}
}

// Promise 32.2: of no world nothing is runnable, and nobody is late.
func TestNoWorld(t *testing.T) {
	for _, from := range []int{math.MinInt, 0, 5, math.MaxInt} {
		if fair.Runnable(nil) != nil || fair.Late(nil, []int{0, 1}, from) != nil {
			t.Errorf("of no world: %v, %v", fair.Runnable(nil), fair.Late(nil, []int{0, 1}, from))
		}
	}
	if len(fair.Runnable(&world.World{})) != 0 {
		t.Errorf("of a world that nobody made: %v", fair.Runnable(&world.World{}))
	}
}

// Promise 32.2: those are runnable whose Status is GRunnable, rising.
func TestRunnable(t *testing.T) {
	x := open(t, api.Config{Procs: 1, Threads: 1, Gs: 7}, nil, nil)
	if got := fair.Runnable(x); !slices.Equal(got, []int{0}) {
		t.Errorf("at the beginning: %v", got)
	}
	for g, status := range []uint64{api.GDead, api.GRunnable, api.GRunning, api.GRunnable, 1<<32 + api.GRunnable, api.GWaiting, api.GRunnable} {
		x.Mem().Store(0, x.Layout().G(g, layout.GStatus), status)
	}
	if got := fair.Runnable(x); !slices.Equal(got, []int{1, 3, 6}) {
		t.Errorf("runnable: %v", got)
	}
	for g := range 7 {
		x.Mem().Store(0, x.Layout().G(g, layout.GStatus), 0)
	}
	if got := fair.Runnable(x); len(got) != 0 {
		t.Errorf("runnable: %v", got)
	}
}

// Promise 32.2: late are those that have no EvStart from a place on, in the order in which they are asked for.
func TestLate(t *testing.T) {
	// 0 spawns 1, yields, and ends; 1 ends
	x := open(t, api.Config{Procs: 1, Threads: 1, Gs: 3}, []uint64{10, 3, 7}, nil)
	for range 300 {
		x.Do(step(0))
	}
	log := x.Log()
	var starts []int
	for _, e := range log {
		if e.Kind == api.EvStart {
			starts = append(starts, e.G)
		}
	}
	if len(log) != 7 || !slices.Equal(starts, []int{0, 1, 0}) {
		t.Fatalf("events: %v", log)
	}
	ask := []int{5, 1, 0, 2, 1, -1, 0, math.MinInt, math.MaxInt}
	for from := -2; from <= len(log)+2; from++ {
		var want []int
		for _, g := range ask {
			late := true
			for i, e := range log {
				late = late && !(i >= from && e.Kind == api.EvStart && e.G == g)
			}
			if late {
				want = append(want, g)
			}
		}
		if got := fair.Late(x, ask, from); !slices.Equal(got, want) {
			t.Errorf("from %d on: %v, want %v", from, got, want)
		}
	}
	for from, want := range map[int]int{math.MinInt: 5, math.MaxInt: 9} {
		if got := fair.Late(x, ask, from); len(got) != want {
			t.Errorf("from %d on: %v", from, got)
		}
	}
	if fair.Late(x, nil, 0) != nil || !slices.Equal(ask[:4], []int{5, 1, 0, 2}) {
		t.Errorf("Late of none, or %v changed", ask)
	}
	got := fair.Late(x, ask, len(log))
	got[0] = 99
	if ask[0] != 5 {
		t.Errorf("an answer shares its memory with an argument")
	}
}
