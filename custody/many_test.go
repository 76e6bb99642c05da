package custody_test

import (
	"slices"
	"testing"

	"turnspit/api"
	"turnspit/custody"
	"turnspit/globq"
	"turnspit/idlep"
	"turnspit/layout"
	"turnspit/plays"
	"turnspit/ring"
	"turnspit/wake"
	"turnspit/world"
)

// watcher reads the chapter's words, one by one, and knows by events who runs, and who is in a call.
type watcher struct {
	x       *world.World
	running map[int]int // by a thread
	calling map[int]int
}

// sees tells it of the last entry's event.
func (w *watcher) sees() {
	e, told := w.x.Event()
	if !told {
		return
	}
	switch e.Kind {
	case api.EvStart, api.EvReturn:
		w.running[e.Thread] = e.G
		delete(w.calling, e.Thread)
	case api.EvEnter:
		w.calling[e.Thread] = e.G
		delete(w.running, e.Thread)
	case api.EvYield, api.EvPreempt, api.EvPark, api.EvExit:
		delete(w.running, e.Thread)
	case api.EvQueue:
		delete(w.calling, e.Thread)
	}
}

// by is a goroutine by a thread.
func by(m map[int]int, t int) []int {
	if g, is := m[t]; is {
		return []int{g}
	}
	return nil
}

// places are a goroutine's, Kind by Kind.
func (w *watcher) places(g int) []custody.Place {
	l, m := w.x.Layout(), w.x.Mem()
	var list []custody.Place
	look := func(kind, many int, which func(n int) []int) {
		for n := range many {
			for _, one := range which(n) {
				if one == g {
					list = append(list, custody.Place{Kind: kind, Of: n})
				}
			}
		}
	}
	c := l.Config()
	next := func(p int) uint64 { n, _ := m.Peek(l.Proc(p, layout.Next)); return n }
	look(custody.AtRing, c.Procs, func(p int) []int {
		all, _ := ring.Gs(l, m, p)
		if next(p) != 0 {
			all = all[:len(all)-1]
		}
		return all
	})
	look(custody.AtNext, c.Procs, func(p int) []int { return []int{int(next(p)) - 1} })
	look(custody.AtQueue, 1, func(int) []int { all, _ := globq.List(l, m); return all })
	look(custody.InHand, c.Threads, func(t int) []int { return w.x.Thread(t).Holds() })
	look(custody.Running, c.Threads, func(t int) []int { return by(w.running, t) })
	look(custody.Calling, c.Threads, func(t int) []int { return by(w.calling, t) })
	look(custody.Waiting, 1, func(int) []int {
		if status, _ := m.Peek(l.G(g, layout.GStatus)); status == api.GWaiting {
			return []int{g}
		}
		return nil
	})
	return list
}

// procPlaces are a processor's, Kind by Kind.
func (w *watcher) procPlaces(p int) []custody.Place {
	l, m := w.x.Layout(), w.x.Mem()
	var list []custody.Place
	look := func(kind, many int, is func(n int) bool) {
		for n := range many {
			if is(n) {
				list = append(list, custody.Place{Kind: kind, Of: n})
			}
		}
	}
	threads := l.Config().Threads
	has := func(t int) bool { return w.x.Thread(t).P() == p }
	look(custody.Idle, 1, func(int) bool { all, _ := idlep.List(l, m); return slices.Contains(all, p) })
	look(custody.Had, threads, has)
	look(custody.Handed, threads, func(t int) bool { return w.x.Thread(t).Hand() == p })
	look(custody.Given, threads, func(t int) bool {
		word, _ := m.Peek(l.Thread(t, layout.Given))
		is, _ := wake.Given(word)
		return is == p
	})
	look(custody.Taken, 1, func(int) bool { return w.x.Mon().Hand() == p })
	look(custody.Left, 1, func(int) bool {
		status, _ := m.Peek(l.Proc(p, layout.Status))
		for t := range threads {
			if has(t) {
				return false
			}
		}
		return status == api.PSyscall
	})
	return list
}

// tally is how many places there were of each Kind.
type tally struct {
	gs    [custody.Waiting + 1]int
	procs [custody.Left + 1]int
}

// holds holds all that is told against what the watcher sees, and that all is kept.
func (w *watcher) holds(t *testing.T, tally *tally) {
	t.Helper()
	var count [custody.Waiting + 1]int
	for g, got := range custody.Gs(w.x) {
		if want := w.places(g); !slices.Equal(got, want) || !slices.Equal(custody.G(w.x, g), want) || !custody.Kept(w.x, g) {
			t.Errorf("%d is at %v, want %v; kept %v", g, got, want, custody.Kept(w.x, g))
		}
		for _, at := range got {
			count[at.Kind]++
			tally.gs[at.Kind]++
		}
	}
	for kind, n := range count {
		if custody.Count(w.x, kind) != n {
			t.Errorf("of the Kind %d are %d, want %d", kind, custody.Count(w.x, kind), n)
		}
	}
	for p, got := range custody.Procs(w.x) {
		if want := w.procPlaces(p); !slices.Equal(got, want) || !slices.Equal(custody.Proc(w.x, p), want) || len(got) != 1 {
			t.Errorf("processor %d is at %v, want %v", p, got, want)
		}
		for _, at := range got {
			tally.procs[at.Kind]++
		}
	}
	if !custody.Right(w.x) {
		t.Errorf("it is not right")
	}
}

// Promise 30.3: whatever the script, at each step each goroutine is kept, each processor has one place, and all that is told is what is seen.
func TestMany(t *testing.T) {
	tally := &tally{}
	for seed := range uint64(60) {
		r := plays.New(seed + 3000)
		c := r.Config([]api.Config{{Procs: 1, Threads: 3, Gs: 4}, {Procs: 3, Threads: 6, Gs: 8}, {Procs: 2, Threads: 2, Gs: 12}}[seed%3])
		x := worldOf(t, c, r)
		w := &watcher{x, map[int]int{}, map[int]int{}}
		s := r.NewScript(c.Threads)
		for n := range 2500 {
			x.Do(s.Next())
			w.sees()
			w.holds(t, tally)
			if t.Failed() {
				t.Fatalf("seed %d, entry %d", seed, n)
			}
		}
	}
	for kind := custody.AtRing; kind <= custody.Waiting; kind++ {
		if tally.gs[kind] < 500 {
			t.Errorf("goroutines' places of the Kind %d: %d", kind, tally.gs[kind])
		}
	}
	for kind := custody.Idle; kind <= custody.Left; kind++ {
		if tally.procs[kind] < 150 {
			t.Errorf("processors' places of the Kind %d: %d", kind, tally.procs[kind])
		}
	}
}

// worldOf is a world that a roll makes up.
func worldOf(t *testing.T, c api.Config, r *plays.Roll) *world.World {
	t.Helper()
	x, e := world.New(c, r.Words(), r.Draws())
	if e != api.OK {
		t.Fatalf("New of %v: %v", c, e)
	}
	return x
}

// Promise 30.3: so it is for longer, of more of all, with rings that go round, and that are full.
func TestLong(t *testing.T) {
	for seed := range uint64(40) {
		r := plays.New(seed + 4000)
		c := r.Config([]api.Config{{Procs: 6, Threads: 12, Gs: 40}, {Procs: 2, Threads: 4, Gs: 700}, {Procs: 64, Threads: 90, Gs: 300}, {Procs: 4, Threads: 5, Gs: 10}}[seed%4])
		x := worldOf(t, c, r)
		s := r.NewScript(c.Threads)
		for n := range 4000 {
			x.Do(s.Next())
			if !custody.Right(x) {
				t.Fatalf("seed %d, entry %d: %v, %v", seed, n, custody.Gs(x), custody.Procs(x))
			}
		}
	}
	words := append(slices.Repeat([]uint64{10}, 600), 7, 3)
	x := open(t, api.Config{Procs: 2, Threads: 2, Gs: 650}, words...)
	most := 0
	for n := range 40000 {
		x.Do(api.Entry{Kind: api.EnStep, Who: n / 30000})
		if n%7 == 0 && !custody.Right(x) {
			t.Fatalf("entry %d: %v, %v", n, custody.Gs(x), custody.Procs(x))
		}
		if n%100 == 0 {
			most = max(most, custody.Count(x, custody.AtQueue))
		}
	}
	if most < 2*(api.Half+1) {
		t.Errorf("%d lay in the queue at most", most)
	}
}
