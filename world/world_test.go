package world_test

import (
	"math"
	"slices"
	"testing"

	"turnspit/api"
	"turnspit/cell"
	"turnspit/code"
	"turnspit/goro"
	"turnspit/idlep"
	"turnspit/layout"
	"turnspit/thread"
	"turnspit/world"
)

const round = 1 << 32 // where an add goes round

// open is a world.
func open(t *testing.T, c api.Config, words, draws []uint64) *world.World {
	t.Helper()
	x, e := world.New(c, words, draws)
	if e != api.OK || x == nil {
		t.Fatalf("New of %v: %v", c, e)
	}
	return x
}

// step, watch, ticks and back are the entries of each kind.
func step(t int) api.Entry { return api.Entry{Kind: api.EnStep, Who: t} }
func back(t int) api.Entry { return api.Entry{Kind: api.EnReturn, Who: t} }
func watch() api.Entry     { return api.Entry{Kind: api.EnMon} }
func ticks() api.Entry     { return api.Entry{Kind: api.EnTick} }

// kept is all of a world that could be changed.
type kept struct {
	words  []uint64
	clock  int
	last   api.Access
	places [][4]int
	does   []int
	passes int
	log    []api.Event
}

// keep is all of it right now.
func keep(x *world.World) kept {
	k := kept{words: x.Mem().Words(), clock: x.Mem().Clock(), last: x.Mem().Last(), passes: x.Mon().Passes(), log: x.Log()}
	for g := range x.Config().Gs {
		k.places = append(k.places, place(x.Arena(), g))
	}
	for t := range x.Config().Threads {
		k.does = append(k.does, x.Thread(t).Does())
	}
	return k
}

// is tells whether both are the same.
func (k kept) is(o kept) bool {
	return slices.Equal(k.words, o.words) && k.clock == o.clock && k.last == o.last && slices.Equal(k.places, o.places) && slices.Equal(k.does, o.does) && k.passes == o.passes && slices.Equal(k.log, o.log)
}

// place is where a goroutine stands.
func place(a *goro.Arena, g int) [4]int {
	program, at, left, begun := a.Place(g)
	return [4]int{program, at, left, begun}
}

// happens does an entry that is to do one access.
func happens(t *testing.T, x *world.World, e api.Entry, a api.Access) {
	t.Helper()
	clock, entries := x.Mem().Clock(), x.Entries()
	if !x.Do(e) || x.Mem().Clock() != clock+1 || x.Mem().Last() != a || x.Entries() != entries+1 {
		t.Errorf("%v: %d accesses, the last one %v, want %v", e, x.Mem().Clock()-clock, x.Mem().Last(), a)
	}
}

// nothing does an entry by which nothing is to happen.
func nothing(t *testing.T, x *world.World, e api.Entry) {
	t.Helper()
	before, entries := keep(x), x.Entries()
	if x.Do(e) || !keep(x).is(before) || x.Entries() != entries+1 {
		t.Errorf("%v happened", e)
	}
	if event, told := x.Event(); told || event != (api.Event{}) {
		t.Errorf("%v, which did not happen: event %v", e, event)
	}
}

// until steps a thread until it does something.
func until(t *testing.T, x *world.World, one, does int) {
	t.Helper()
	for n := 0; x.Thread(one).Does() != does; n++ {
		if n > 500 {
			t.Fatalf("thread %d does %d, and not %d", one, x.Thread(one).Does(), does)
		}
		x.Do(step(one))
	}
}

// Worlds that there are not: none, and one that nobody made.
func TestNoWorld(t *testing.T) {
	var none *world.World
	for _, x := range []*world.World{none, {}} {
		for _, e := range []api.Entry{step(0), watch(), ticks(), back(0), {}, {Kind: 9, Who: 9}} {
			if x.Do(e) {
				t.Errorf("%v happened", e)
			}
		}
		if x.Run([]uint64{0, 4, 5, 6, 1 << 40}) != 0 || len(x.Log()) != 0 || x.Config() != (api.Config{}) || x.Made() != 0 {
			t.Errorf("told %v, %v, %d", x.Log(), x.Config(), x.Made())
		}
		if e, told := x.Event(); told || e != (api.Event{}) {
			t.Errorf("an event: %v", e)
		}
		for _, n := range []int{math.MinInt, -1, 0, 1, math.MaxInt} {
			if x.Thread(n) != nil {
				t.Errorf("thread %d", n)
			}
		}
		if x.Layout() != nil || x.Mem() != nil || x.Arena() != nil || x.Mon() != nil {
			t.Errorf("what there is not")
		}
	}
	if none.Entries() != 0 {
		t.Errorf("entries: %d", none.Entries())
	}
}

// Promise 28.1: a config that may not be has no world; one at the limits has.
func TestConfigs(t *testing.T) {
	for _, c := range []api.Config{
		{}, {Procs: 0, Threads: 1, Gs: 1}, {Procs: 2, Threads: 1, Gs: 1}, {Procs: 1, Threads: 1, Gs: 0}, {Procs: 65, Threads: 65, Gs: 1}, {Procs: 1, Threads: 257, Gs: 1}, {Procs: 1, Threads: 1, Gs: 65537},
		{Procs: -1, Threads: 1, Gs: 1}, {Procs: 1, Threads: 1, Gs: -5}, {Procs: math.MinInt, Threads: math.MinInt, Gs: math.MinInt}, {Procs: math.MaxInt, Threads: math.MaxInt, Gs: math.MaxInt},
	} {
		if x, e := world.New(c, []uint64{1}, []uint64{2}); x != nil || e != api.ErrArg {
			t.Errorf("New of %v: %v", c, e)
		}
	}
	for _, c := range []api.Config{{Procs: 1, Threads: 1, Gs: 1}, {Procs: 1, Threads: 256, Gs: 1}, {Procs: 64, Threads: 64, Gs: 2}, {Procs: 64, Threads: 256, Gs: 65536}} {
		if x := open(t, c, nil, nil); x.Config() != c || x.Layout().Config() != c || x.Arena().Len() != c.Gs {
			t.Errorf("config %v: %v", c, x.Config())
		}
	}
}

// beginning are the words that are not 0 at the beginning.
func beginning(l *layout.Layout) map[int]uint64 {
	words := map[int]uint64{
		l.Word(layout.Threads): 1, l.Word(layout.Gs): 1, l.Proc(0, layout.Status): api.PRunning, l.Proc(0, layout.Tail): 1, l.Ring(0, 0): 1, l.G(0, layout.GStatus): api.GRunnable,
	}
	procs := l.Config().Procs
	if procs == 1 {
		return words
	}
	words[l.Word(layout.IdleP)] = 2
	words[l.Word(layout.IdlePs)] = uint64(procs - 1)
	words[l.Word(layout.Mask)] = math.MaxUint64>>(64-procs) - 1
	for p := 1; p < procs-1; p++ {
		words[l.Proc(p, layout.PLink)] = uint64(p) + 2
	}
	return words
}

// Promises 28.1 and 28.2: a world at its beginning: all words, and all that it tells.
func TestBeginning(t *testing.T) {
	words := []uint64{25, 0, 7, 18}
	for _, c := range []api.Config{{Procs: 1, Threads: 1, Gs: 1}, {Procs: 1, Threads: 4, Gs: 9}, {Procs: 2, Threads: 2, Gs: 1}, {Procs: 3, Threads: 5, Gs: 4}, {Procs: 64, Threads: 70, Gs: 3}} {
		x := open(t, c, words, []uint64{4, 5})
		want := beginning(x.Layout())
		if x.Mem().Len() != x.Layout().Len() {
			t.Errorf("%v: %d words, want %d", c, x.Mem().Len(), x.Layout().Len())
		}
		for at, w := range x.Mem().Words() {
			if w != want[at] {
				area, n, field := x.Layout().Which(at)
				t.Errorf("%v: word %d (%d, %d, %d) is %d, want %d", c, at, area, n, field, w, want[at])
			}
		}
		list, right := idlep.List(x.Layout(), x.Mem())
		if !right || len(list) != c.Procs-1 || !slices.IsSorted(list) {
			t.Errorf("%v: idle ones %v", c, list)
		}
		if x.Mem().Clock() != 0 || x.Mem().Bad() != 0 || x.Mem().Last() != (api.Access{}) || x.Entries() != 0 || x.Made() != 1 || len(x.Log()) != 0 {
			t.Errorf("%v: clock %d, entries %d, made %d, log %v", c, x.Mem().Clock(), x.Entries(), x.Made(), x.Log())
		}
		if e, told := x.Event(); told || e != (api.Event{}) {
			t.Errorf("%v: event %v", c, e)
		}
		parts(t, x)
	}
}

// parts holds what a world is made of, at its beginning.
func parts(t *testing.T, x *world.World) {
	t.Helper()
	a := x.Arena()
	if a.Code().Len() != 2 || a.Code().At(0, 0) != (api.Instr{Kind: api.InCompute, Arg: 4}) || a.Code().At(1, 0).Kind != api.InSpawn {
		t.Errorf("programs: %d", a.Code().Len())
	}
	for g := range a.Len() {
		want := [4]int{}
		if g == 0 {
			want[3] = 1
		}
		if place(a, g) != want {
			t.Errorf("%d is at %v", g, place(a, g))
		}
	}
	threads := x.Config().Threads
	for one := range threads {
		does, p := thread.Naps, api.None
		if one == 0 {
			does, p = thread.Finds, 0
		}
		if y := x.Thread(one); y.Does() != does || y.P() != p || y != x.Thread(one) {
			t.Errorf("thread %d does %d, with %d", one, y.Does(), y.P())
		}
	}
	for _, one := range []int{math.MinInt, -1, threads, threads + 1, math.MaxInt} {
		if x.Thread(one) != nil {
			t.Errorf("there is a thread %d", one)
		}
	}
	if !x.Mon().Between() || x.Mon().Passes() != 0 || x.Mon() != x.Mon() || x.Mem() != x.Mem() || x.Layout() != x.Layout() {
		t.Errorf("the monitor is in a pass, or parts are others each time")
	}
}

// Promise 28.1: each kind of entry does its one access, by its number.
func TestEntriesHappen(t *testing.T) {
	x := open(t, api.Config{Procs: 2, Threads: 5, Gs: 3}, nil, nil)
	l := x.Layout()
	now := l.Word(layout.Now)
	happens(t, x, step(0), api.Access{Kind: api.AcLoad, Who: 0, At: l.Proc(0, layout.Preempt), Done: true})
	happens(t, x, watch(), api.Access{Kind: api.AcLoad, Who: 5, At: now, Done: true})
	happens(t, x, ticks(), api.Access{Kind: api.AcAdd, Who: 6, At: now, Old: 0, New: 1, Done: true})
	happens(t, x, ticks(), api.Access{Kind: api.AcAdd, Who: 6, At: now, Old: 1, New: 2, Done: true})
	x.Mem().Store(99, now, round-1)
	happens(t, x, ticks(), api.Access{Kind: api.AcAdd, Who: 6, At: now, Old: round - 1, New: 0, Done: true})
	happens(t, x, watch(), api.Access{Kind: api.AcLoad, Who: 5, At: l.Proc(0, layout.Status), Old: api.PRunning, Done: true})
	if x.Entries() != 6 || x.Mon().Between() {
		t.Errorf("entries: %d", x.Entries())
	}
}

// Promise 28.1: entries of other kinds, and of threads that there are not, or are not there yet, do not happen, and change nothing at all; they are entries all the same.
func TestEntriesDoNotHappen(t *testing.T) {
	x := open(t, api.Config{Procs: 2, Threads: 5, Gs: 3}, nil, []uint64{1, 2})
	for _, kind := range []int{math.MinInt, -1, 0, 5, 9, math.MaxInt} {
		for _, who := range []int{-1, 0, 1} {
			nothing(t, x, api.Entry{Kind: kind, Who: who})
		}
	}
	for _, one := range []int{math.MinInt, -1, 1, 4, 5, 6, 256, math.MaxInt} {
		nothing(t, x, step(one))
		nothing(t, x, back(one))
	}
	nothing(t, x, back(0)) // it is in no call
}

// Promise 28.1: a call returns once; until then, and of a thread that is asleep, a step does nothing.
func TestReturns(t *testing.T) {
	x := open(t, api.Config{Procs: 1, Threads: 2, Gs: 1}, []uint64{6}, nil)
	until(t, x, 0, thread.GoesIn)
	nothing(t, x, back(0)) // it does not wait yet
	until(t, x, 0, thread.InCall)
	nothing(t, x, step(0))
	clock, entries := x.Mem().Clock(), x.Entries()
	if !x.Do(back(0)) || x.Mem().Clock() != clock || x.Entries() != entries+1 {
		t.Errorf("the call does not return")
	}
	nothing(t, x, back(0))
	until(t, x, 0, thread.Ends)
	for n := 0; !x.Thread(0).Blocked(x.Mem()) && n < 500; n++ {
		x.Do(step(0))
	}
	nothing(t, x, step(0))
	nothing(t, x, back(0))
}

// Promise 28.2: a thread is there, if its number is below Threads, whatever that is; no more than the config's are.
func TestMade(t *testing.T) {
	for _, c := range []struct {
		word uint64
		made int
	}{{0, 0}, {1, 1}, {2, 2}, {4, 4}, {5, 5}, {6, 5}, {1 << 32, 5}, {1 << 63, 5}, {math.MaxUint64, 5}} {
		x := open(t, api.Config{Procs: 2, Threads: 5, Gs: 3}, nil, nil)
		x.Mem().Store(99, x.Layout().Word(layout.Threads), c.word)
		if x.Made() != c.made {
			t.Errorf("of %d: made %d, want %d", c.word, x.Made(), c.made)
		}
		for one := range 7 {
			if one >= c.made {
				nothing(t, x, step(one))
				continue
			}
			at := x.Layout().Thread(one, layout.Note)
			if one == 0 {
				at = x.Layout().Proc(0, layout.Preempt)
			}
			happens(t, x, step(one), api.Access{Kind: api.AcLoad, Who: one, At: at, Done: true})
		}
	}
}

// Promise 28.1: a call returns only if its thread is there.
func TestReturnsIfThere(t *testing.T) {
	x := open(t, api.Config{Procs: 1, Threads: 2, Gs: 1}, []uint64{6}, nil)
	until(t, x, 0, thread.InCall)
	at := x.Layout().Word(layout.Threads)
	x.Mem().Store(99, at, 0)
	nothing(t, x, back(0))
	x.Mem().Store(99, at, 1)
	if !x.Do(back(0)) {
		t.Errorf("the call does not return")
	}
}

// Promise 28.1: entries of words happen as those that they are of the config's threads.
func TestRun(t *testing.T) {
	c := api.Config{Procs: 2, Threads: 3, Gs: 3}
	words := []uint64{10, 6, 3, 7, 9, 6}
	a, b := open(t, c, words, nil), open(t, c, words, nil)
	happened := 0
	for n := range uint64(3000) {
		who := int(n * n % 7 % 3)
		w := []uint64{8 * uint64(who), 8*uint64(who+300) + 3, 4, 5, 8*uint64(who) + 6, 8*uint64(n) + 7, 8*uint64(who+3<<40) + 6}[n%7]
		e := []api.Entry{step(who), step(who), watch(), ticks(), back(who), watch(), back((who + 3<<40) % 3)}[n%7]
		many := 0
		if a.Do(e) {
			many = 1
		}
		if b.Run([]uint64{w}) != many || a.Mem().Last() != b.Mem().Last() {
			t.Fatalf("word %d is not as %v", w, e)
		}
		happened += many
	}
	if !keep(a).is(keep(b)) || a.Entries() != b.Entries() || happened < 1000 || len(a.Log()) < 5 {
		t.Errorf("they part; %d happened, %v", happened, a.Log())
	}
	if b.Run(nil) != 0 || b.Run([]uint64{}) != 0 || b.Entries() != 3000 {
		t.Errorf("no entries happened")
	}
}

// Promise 28.1: how many happened, of entries of which some do not.
func TestRunCounts(t *testing.T) {
	x := open(t, api.Config{Procs: 1, Threads: 3, Gs: 1}, nil, nil)
	// a step of 0, one of 1, who is not there, the monitor, the clock, a return of 0, who is in no call
	if n := x.Run([]uint64{0, 8, 4, 5, 6}); n != 3 || x.Entries() != 5 || x.Mem().Clock() != 3 {
		t.Errorf("%d happened, of %d entries; %d accesses", n, x.Entries(), x.Mem().Clock())
	}
}

// Promise 28.2: the event of the last entry is that of its thread's step, and the log has all, in order; what is handed out is a copy.
func TestEvents(t *testing.T) {
	x := open(t, api.Config{Procs: 1, Threads: 1, Gs: 2}, []uint64{10, 3, 7, 0}, nil)
	var log []api.Event
	for n := range 400 {
		x.Do([]api.Entry{step(0), step(0), watch(), ticks(), {Kind: 8}, step(5)}[n%6])
		event, told := x.Event()
		want, wanted := api.Event{}, false
		if n%6 < 2 {
			want, wanted = x.Thread(0).Event()
		}
		if event != want || told != wanted {
			t.Errorf("entry %d: %v, %v, want %v, %v", n, event, told, want, wanted)
		}
		if told {
			log = append(log, event)
		}
		got := x.Log()
		if !slices.Equal(got, log) {
			t.Fatalf("entry %d: log %v, want %v", n, got, log)
		}
		for i := range got {
			got[i].Kind = -1
		}
		if len(got) > 0 {
			_ = append(got[:0], api.Event{}, api.Event{})
		}
	}
	var kinds []int
	for _, e := range log {
		kinds = append(kinds, e.Kind)
	}
	if !slices.Equal(kinds, []int{api.EvStart, api.EvSpawn, api.EvYield, api.EvStart, api.EvExit, api.EvStart, api.EvExit}) {
		t.Errorf("kinds %v", kinds)
	}
}

// What is handed in is neither changed nor kept.
func TestArguments(t *testing.T) {
	c := api.Config{Procs: 3, Threads: 4, Gs: 8}
	words, draws := []uint64{10, 10, 3, 7, 9, 6}, []uint64{9, 8, 7, 6, 5}
	ours, theirs := slices.Clone(words), slices.Clone(draws)
	script := []uint64{0, 4, 5, 6, 8, 16, 24, 0, 0}
	kept := slices.Clone(script)
	a, b := open(t, c, words, draws), open(t, c, ours, theirs)
	for i := range ours {
		ours[i] = 0
	}
	for i := range theirs {
		theirs[i] = 0
	}
	for range 400 {
		a.Run(script)
		b.Run(script)
	}
	if !keep(a).is(keep(b)) || len(a.Log()) < 8 {
		t.Errorf("they part: %v, %v", a.Log(), b.Log())
	}
	if !slices.Equal(words, []uint64{10, 10, 3, 7, 9, 6}) || !slices.Equal(draws, []uint64{9, 8, 7, 6, 5}) || !slices.Equal(script, kept) {
		t.Errorf("changed: %v, %v, %v", words, draws, script)
	}
}

// The chapter's example: of one processor, thread and goroutine, without a program.
func TestExample(t *testing.T) {
	x := open(t, api.Config{Procs: 1, Threads: 1, Gs: 1}, nil, nil)
	for n := range 13 {
		if !x.Do(step(0)) {
			t.Errorf("step %d does nothing", n)
		}
		want := 0
		switch {
		case n == 12:
			want = 2
		case n >= 8:
			want = 1
		}
		if len(x.Log()) != want {
			t.Errorf("behind step %d: %v", n, x.Log())
		}
	}
	if !slices.Equal(x.Log(), []api.Event{{Kind: api.EvStart, Other: api.None}, {Kind: api.EvExit, Other: api.None}}) {
		t.Errorf("log %v", x.Log())
	}
}

// The memory, and the code, are a world's own: another world of the same has others.
func TestOwn(t *testing.T) {
	c := api.Config{Procs: 1, Threads: 1, Gs: 1}
	a, b := open(t, c, []uint64{9}, nil), open(t, c, []uint64{9}, nil)
	a.Mem().Store(0, 0, 5)
	a.Arena().Step(0)
	var m *cell.Mem = b.Mem()
	var code *code.Code = b.Arena().Code()
	if m.Clock() != 0 || place(b.Arena(), 0) != [4]int{0, 0, 0, 1} || code.Len() != 1 {
		t.Errorf("a world has another one's")
	}
}
