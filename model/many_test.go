package model_test

import (
	"slices"
	"testing"

	"turnspit/api"
	"turnspit/code"
	"turnspit/layout"
	"turnspit/model"
	"turnspit/plays"
	"turnspit/world"
)

// bag is a model that is read out of the chapter line by line: all is looked up in a list.
type bag struct {
	code *code.Code
	list []item
}

// item is a goroutine in the bag.
type item struct{ what, program, behind, thread, proc int }

// next is the place of a goroutine's next instruction, and of the first InReady ahead of it (api.None: there is none).
func (b *bag) next(g int) (next, ready int) {
	ready = api.None
	for i := b.list[g].behind; ; i++ {
		switch b.code.At(b.list[g].program, i).Kind {
		case api.InCompute:
		case api.InReady:
			if ready == api.None {
				ready = i
			}
		default:
			return i, ready
		}
	}
}

// does lets an event happen, if it may be: whether it may.
func (b *bag) does(e api.Event) bool {
	if e.G < 0 || e.G >= len(b.list) {
		return false
	}
	g := &b.list[e.G]
	next, ready := b.next(e.G)
	kind, arg := b.code.At(g.program, next).Kind, b.code.At(g.program, next).Arg
	other := item{what: api.None}
	if e.Other >= 0 && e.Other < len(b.list) {
		other = b.list[e.Other]
	}
	runs := g.what == api.GRunning && e.Thread == g.thread && e.Proc == g.proc
	calls := g.what == api.GSyscall && e.Thread == g.thread
	alone := e.Other == api.None
	procFree, threadFree := true, true
	for n, o := range b.list {
		if n == e.G {
			continue
		}
		procFree = procFree && !(o.what == api.GRunning && o.proc == e.Proc)
		threadFree = threadFree && !((o.what == api.GRunning || o.what == api.GSyscall) && o.thread == e.Thread)
	}
	is, behind := *g, next+1
	may := false
	switch e.Kind {
	case api.EvStart:
		may, behind = alone && g.what == api.GRunnable && procFree && threadFree, g.behind
		is.what, is.thread, is.proc = api.GRunning, e.Thread, e.Proc
	case api.EvSpawn:
		may = runs && kind == api.InSpawn && e.Other != e.G && (other.what == api.GIdle || other.what == api.GDead)
		other = item{what: api.GRunnable, program: arg}
	case api.EvRefused:
		may = alone && runs && kind == api.InSpawn
	case api.EvYield:
		may = alone && runs && kind == api.InYield
		is.what = api.GRunnable
	case api.EvPreempt:
		may, behind = alone && runs, g.behind
		is.what = api.GRunnable
	case api.EvPark:
		may = alone && runs && kind == api.InPark
		is.what = api.GWaiting
	case api.EvReady:
		may, behind = runs && ready != api.None && other.what == api.GWaiting, ready+1
		other.what = api.GRunnable
	case api.EvEnter:
		may = alone && runs && kind == api.InSyscall
		is.what = api.GSyscall
	case api.EvReturn:
		may, behind = alone && calls && procFree, g.behind
		is.what, is.proc = api.GRunning, e.Proc
	case api.EvQueue:
		may, behind = alone && calls && e.Proc == api.None, g.behind
		is.what = api.GRunnable
	case api.EvExit:
		may = alone && runs && kind == api.InExit
		is.what = api.GDead
	}
	if !may {
		return false
	}
	is.behind = behind
	*g = is
	if e.Other != api.None {
		b.list[e.Other] = other
	}
	return true
}

// copied is a bag that is the same.
func (b *bag) copied() *bag {
	return &bag{b.code, append([]item{}, b.list...)}
}

// tells holds what a model tells against the bag.
func (b *bag) tells(t *testing.T, x *model.Model) {
	t.Helper()
	count := map[int]int{}
	for g, i := range b.list {
		count[i.what]++
		next, _ := b.next(g)
		if x.What(g) != i.what || x.Program(g) != i.program || x.Next(g) != b.code.At(i.program, next) {
			t.Errorf("%d is %d, %d, its next one %v, want %v", g, x.What(g), x.Program(g), x.Next(g), i)
		}
	}
	for what := -1; what <= 6; what++ {
		if x.Count(what) != count[what] {
			t.Errorf("%d are %d, want %d", x.Count(what), what, count[what])
		}
	}
}

// events are all events of small numbers.
func events(gs int) []api.Event {
	var list []api.Event
	for kind := range 13 {
		for g := -1; g <= gs; g++ {
			for other := -1; other <= gs; other++ {
				for thread := -1; thread < 3; thread++ {
					for proc := -1; proc < 3; proc++ {
						list = append(list, api.Event{Kind: kind, G: g, Other: other, Thread: thread, Proc: proc})
					}
				}
			}
		}
	}
	return list
}

// Promises 29.1 and 29.2: of all events of small numbers just those may be that the chapter says, and what comes of them is what it says, however they come behind one another.
func TestAgainstBag(t *testing.T) {
	const gs = 3
	list := events(gs)
	done := map[int]int{}
	for seed := range uint64(100) {
		r := plays.New(seed)
		words := r.Words()
		if seed%2 == 0 { // one that readies and spawns, and one that waits, again and again
			words = append(append(slices.Repeat([]uint64{5, 10, 13, 5, 3, 6, 5}, 6), 7), slices.Repeat([]uint64{4, 1, 5}, 20)...)
		}
		c := code.Read(words)
		x, _ := model.New(c, api.Config{Procs: 1, Gs: gs})
		b := &bag{c, make([]item, gs)}
		b.list[0].what = api.GRunnable
		for range 60 {
			var may []api.Event
			for _, e := range list {
				is := b.copied().does(e)
				if x.May(e) != is {
					t.Fatalf("seed %d: %v may be: %v, want %v; %v", seed, e, x.May(e), is, b.list)
				}
				if is {
					may = append(may, e)
				} else if x.Do(e) != api.ErrRule {
					t.Fatalf("seed %d: %v is done", seed, e)
				}
			}
			b.tells(t, x)
			if len(may) == 0 || t.Failed() {
				break
			}
			e := pick(r, may)
			if x.Do(e) != api.OK || !b.does(e) {
				t.Fatalf("seed %d: %v is not done", seed, e)
			}
			done[e.Kind]++
		}
	}
	for kind := api.EvStart; kind <= api.EvExit; kind++ {
		if done[kind] < 10 {
			t.Errorf("events of the kind %d: %d", kind, done[kind])
		}
	}
}

// pick is one of a list: first of all a kind is chosen, as there are many events of some kinds, and few of others.
func pick(r *plays.Roll, list []api.Event) api.Event {
	by := map[int][]api.Event{}
	for _, e := range list {
		by[e.Kind] = append(by[e.Kind], e)
	}
	for {
		kind := api.EvStart + r.Below(api.EvExit)
		if r.Below(3) == 0 {
			kind = api.EvReady // it seldom may be
		}
		if of := by[kind]; len(of) > 0 {
			return of[r.Below(len(of))]
		}
	}
}

// Promise 29.3: whatever a world does, its events may be, one behind the other, and behind each entry every goroutine is what its Status says.
func TestWorlds(t *testing.T) {
	kinds := map[int]int{}
	for seed := range uint64(150) {
		r := plays.New(seed + 500)
		c := r.Config([]api.Config{{Procs: 1, Threads: 3, Gs: 5}, {Procs: 3, Threads: 6, Gs: 12}, {Procs: 6, Threads: 20, Gs: 50}}[seed%3])
		words := r.Words()
		x, e := world.New(c, words, r.Draws())
		if e != api.OK {
			t.Fatalf("New: %v", e)
		}
		y, _ := model.New(code.Read(words), c)
		s := r.NewScript(c.Threads)
		for n := range 6000 {
			entry := s.Next()
			x.Do(entry)
			if event, told := x.Event(); told {
				kinds[event.Kind]++
				if y.Do(event) != api.OK {
					t.Fatalf("seed %d, entry %d: %v may not be", seed, n, event)
				}
			}
			for g := range c.Gs {
				if status, _ := x.Mem().Peek(x.Layout().G(g, layout.GStatus)); status != uint64(y.What(g)) {
					t.Fatalf("seed %d, entry %d: %d is %d, and %d", seed, n, g, status, y.What(g))
				}
			}
		}
		again, _ := model.New(code.Read(words), c)
		if n, all := again.All(x.Log()); !all || n != len(x.Log()) {
			t.Errorf("seed %d: of %d events %d may be", seed, len(x.Log()), n)
		}
		if y.Count(api.GRunning) > c.Procs {
			t.Errorf("seed %d: %d run", seed, y.Count(api.GRunning))
		}
	}
	for kind := api.EvStart; kind <= api.EvExit; kind++ {
		if kinds[kind] < 30 {
			t.Errorf("events of the kind %d: %d", kind, kinds[kind])
		}
	}
}
