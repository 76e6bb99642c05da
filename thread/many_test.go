package thread_test

import (
	"slices"
	"testing"

	"turnspit/acts"
	"turnspit/api"
	"turnspit/cell"
	"turnspit/code"
	"turnspit/draw"
	"turnspit/globq"
	"turnspit/goro"
	"turnspit/idlep"
	"turnspit/layout"
	"turnspit/mon"
	"turnspit/ring"
	"turnspit/thread"
	"turnspit/wake"
)

// house is threads and a monitor that share a memory, and a bag of goroutines against which their events are held.
type house struct {
	l       *layout.Layout
	m       *cell.Mem
	a       *goro.Arena
	threads []*thread.Thread
	mon     *mon.Mon
	bag     []*item
	roll    uint64
	tally   *tally
}

// tally is how often there was what.
type tally struct {
	kinds      map[int]int // an event of a kind
	does       map[int]int // what a thread does, behind a step
	handed     int         // a processor that the monitor took
	work, room int         // all rested, and work waited, or a processor was idle
}

// item is a goroutine in the bag: what it is, where in its program it stands, by whom it runs or is in a call, and with which processor.
type item struct {
	what, program, at int
	thread, proc      int
}

// below is a number below n.
func (h *house) below(n int) int {
	h.roll = h.roll*6364136223846793005 + 1442695040888963407
	return int(h.roll >> 33 % uint64(n))
}

// word is what stands at a place.
func (h *house) word(at int) uint64 {
	w, _ := h.m.Peek(at)
	return w
}

// words are programs that are made up: of a few instructions of all kinds each, few that wait, and at the end some that spawn others, so that it goes on for long.
func (h *house) words() []uint64 {
	kinds := []uint64{
		api.InCompute, api.InCompute, api.InCompute, api.InSpawn, api.InYield, api.InYield, api.InPark, api.InPark, api.InReady, api.InReady, api.InReady, api.InSyscall, api.InSyscall, api.InSyscall,
	}
	var words []uint64
	for range 2 + h.below(4) {
		for range 1 + h.below(8) {
			words = append(words, kinds[h.below(len(kinds))]+8*uint64(h.below(12)))
		}
		for range 2 + h.below(2) {
			words = append(words, api.InSpawn+8*uint64(h.below(9)))
		}
		words = append(words, 7)
	}
	return words
}

// over tells whether nothing can go on any more: all that there are wait.
func (h *house) over() bool {
	return !slices.ContainsFunc(h.bag, func(g *item) bool { return g.what != api.GIdle && g.what != api.GDead && g.what != api.GWaiting })
}

// openHouse is a house at its beginning: goroutine 0 lies in the ring of processor 0, which thread 0 has; the other processors are idle.
func openHouse(t *testing.T, c api.Config, seed uint64, tally *tally) *house {
	t.Helper()
	l, m := acts.Lay(t, c)
	h := &house{l: l, m: m, roll: seed, mon: mon.New(l), tally: tally}
	a, e := goro.New(code.Read(h.words()), c.Gs)
	if e != api.OK {
		t.Fatalf("arena: %v", e)
	}
	h.a = a
	a.Begin(0, 0)
	for range c.Gs {
		h.bag = append(h.bag, &item{})
	}
	h.bag[0].what = api.GRunnable
	m.Store(99, l.Word(layout.Threads), 1)
	m.Store(99, l.Word(layout.Gs), 1)
	m.Store(99, l.Proc(0, layout.Status), api.PRunning)
	m.Store(99, l.Proc(0, layout.Tail), 1)
	m.Store(99, l.Ring(0, 0), 1)
	m.Store(99, l.G(0, layout.GStatus), api.GRunnable)
	for p := c.Procs - 1; p > 0; p-- {
		acts.All(t, m, idlep.New(l, 99, p))
	}
	var draws []uint64
	for range h.below(400) {
		draws = append(draws, uint64(h.below(1<<30)))
	}
	cursor := draw.New(draws)
	for one := range c.Threads {
		h.threads = append(h.threads, thread.New(l, a, one, cursor))
	}
	return h
}

// made is how many threads are there.
func (h *house) made() int {
	return int(h.word(h.l.Word(layout.Threads)))
}

// step does a step of a thread, if it is there, and holds its event against the bag.
func (h *house) step(t *testing.T, one int) {
	t.Helper()
	if one >= h.made() {
		return
	}
	x, blocked, clock := h.threads[one], h.threads[one].Blocked(h.m), h.m.Clock()
	did := x.Step(h.m)
	if did == blocked || (h.m.Clock() == clock+1) != did || did && h.m.Last().Who != one {
		t.Errorf("thread %d: a step: %v, blocked %v; %d accesses, the last one %v", one, did, blocked, h.m.Clock()-clock, h.m.Last())
	}
	h.tally.does[x.Does()]++
	if e, told := x.Event(); told {
		h.tally.kinds[e.Kind]++
		if e.Thread != one || !did {
			t.Errorf("thread %d: %v, step %v", one, e, did)
		}
		h.happens(t, e)
	} else if e != (api.Event{}) {
		t.Errorf("thread %d: no event, and %v", one, e)
	}
}

// weights are how often, of 100 entries, a thread does a step, the monitor does one, and the clock goes on; else a call returns.
type weights struct{ step, mon, tick int }

// phases are scripts of unlike kinds: in some the monitor is slow, in some calls return late.
var phases = []weights{{70, 16, 6}, {40, 50, 8}, {60, 30, 9}, {88, 4, 4}, {50, 20, 28}, {94, 2, 0}}

// entry is one of a script; most are by the threads from some one on.
func (h *house) entry(t *testing.T, w weights, from int) {
	t.Helper()
	one := h.below(h.l.Config().Threads)
	if one < from && h.below(4) > 0 {
		one = from
	}
	switch n := h.below(100); {
	case n < w.step:
		h.step(t, one)
	case n < w.step+w.mon:
		had := h.mon.Hand()
		h.mon.Step(h.m)
		if had == api.None && h.mon.Hand() != api.None {
			h.tally.handed++
		}
	case n < w.step+w.mon+w.tick:
		h.m.Add(99, h.l.Word(layout.Now), 1)
	case one < h.made():
		in := h.threads[one].Does() == thread.InCall
		if (h.threads[one].Return() == api.OK) != in {
			t.Errorf("thread %d: in a call %v", one, in)
		}
	}
}

// next is a goroutine's next instruction that is an event of, and how many InReadys are ahead of it.
func (h *house) next(g *item) (kind, arg, at int) {
	for i := g.at; ; i++ {
		x := h.a.Code().At(g.program, i)
		if x.Kind != api.InCompute && x.Kind != api.InReady {
			return x.Kind, x.Arg, i
		}
	}
}

// behind lets an instruction of a kind, and all ahead of it, be behind a goroutine: whether it is the next one.
func (h *house) behind(g *item, kind int) bool {
	is, _, at := h.next(g)
	g.at = at + 1
	return is == kind
}

// readies lets the first InReady be behind a goroutine: whether there is one ahead of its next instruction.
func (h *house) readies(g *item) bool {
	for i := g.at; ; i++ {
		switch h.a.Code().At(g.program, i).Kind {
		case api.InCompute:
		case api.InReady:
			g.at = i + 1
			return true
		default:
			return false
		}
	}
}

// alone tells whether no other one runs with a processor, or by a thread, or is in a call by that (api.None: whatever it is).
func (h *house) alone(who *item, proc, by int) bool {
	for _, g := range h.bag {
		if g == who {
			continue
		}
		if g.what == api.GRunning && (g.proc == proc || g.thread == by) || g.what == api.GSyscall && g.thread == by {
			return false
		}
	}
	return true
}

// happens holds an event against the bag, and lets it happen there.
func (h *house) happens(t *testing.T, e api.Event) {
	t.Helper()
	if e.G < 0 || e.G >= len(h.bag) {
		t.Fatalf("%v: there is no such goroutine", e)
	}
	g := h.bag[e.G]
	var other *item
	if e.Other != api.None {
		other = h.bag[e.Other]
	}
	if !h.may(g, other, e) {
		t.Errorf("%v may not be: %v", e, *g)
	}
}

// may tells whether an event may be, and lets it happen.
func (h *house) may(g, other *item, e api.Event) bool {
	runs := g.what == api.GRunning && g.thread == e.Thread && g.proc == e.Proc
	calls := g.what == api.GSyscall && g.thread == e.Thread
	if (other != nil) != (e.Kind == api.EvSpawn || e.Kind == api.EvReady) {
		return false
	}
	switch e.Kind {
	case api.EvStart:
		is := g.what == api.GRunnable && h.alone(g, e.Proc, e.Thread) && e.Proc != api.None
		g.what, g.thread, g.proc = api.GRunning, e.Thread, e.Proc
		return is
	case api.EvPreempt:
		g.what = api.GRunnable
		return runs
	case api.EvYield:
		g.what = api.GRunnable
		return runs && h.behind(g, api.InYield)
	case api.EvPark:
		g.what = api.GWaiting
		return runs && h.behind(g, api.InPark)
	case api.EvEnter:
		g.what = api.GSyscall
		return runs && h.behind(g, api.InSyscall)
	case api.EvReturn:
		g.what, g.proc = api.GRunning, e.Proc
		return calls && h.alone(g, e.Proc, e.Thread) && e.Proc != api.None
	case api.EvQueue:
		g.what = api.GRunnable
		return calls && e.Proc == api.None
	case api.EvExit:
		g.what = api.GDead
		return runs && h.behind(g, api.InExit)
	case api.EvRefused:
		return runs && h.behind(g, api.InSpawn)
	case api.EvSpawn:
		_, program, _ := h.next(g)
		is := runs && (other.what == api.GIdle || other.what == api.GDead) && h.behind(g, api.InSpawn)
		*other = item{what: api.GRunnable, program: program}
		return is
	case api.EvReady:
		is := runs && other.what == api.GWaiting && h.readies(g)
		other.what = api.GRunnable
		return is
	}
	return false
}

// places are all places of goroutines, each with what it should be there.
func (h *house) places(t *testing.T) (gs map[int][]int, ps map[int]int) {
	t.Helper()
	gs, ps = map[int][]int{}, map[int]int{}
	lie := func(list []int, right bool) {
		if !right {
			t.Errorf("what may not be: %v", list)
		}
		for _, g := range list {
			gs[g] = append(gs[g], api.GRunnable)
		}
	}
	lie(globq.List(h.l, h.m))
	list, right := idlep.List(h.l, h.m)
	if !right {
		t.Errorf("idle ones: %v", list)
	}
	for _, p := range list {
		ps[p]++
	}
	for p := range h.l.Config().Procs {
		lie(ring.Gs(h.l, h.m, p))
		if h.word(h.l.Proc(p, layout.Status)) == api.PSyscall && !slices.ContainsFunc(h.threads, func(x *thread.Thread) bool { return x.P() == p }) {
			ps[p]++
		}
	}
	ps[h.mon.Hand()]++
	for one, x := range h.threads {
		lie(x.Holds(), true)
		ps[x.P()]++
		ps[x.Hand()]++
		p, _ := wake.Given(h.word(h.l.Thread(one, layout.Given)))
		ps[p]++
		if g := x.G(); g != api.None {
			gs[g] = append(gs[g], h.bag[g].what)
			if h.bag[g].thread != one {
				t.Errorf("%d is by %d, not by %d", g, h.bag[g].thread, one)
			}
		}
	}
	for g := range h.bag {
		if h.word(h.l.G(g, layout.GStatus)) == api.GWaiting {
			gs[g] = append(gs[g], api.GWaiting)
		}
	}
	return gs, ps
}

// kept holds that each goroutine is what the bag says, and in one place that suits that, and each processor in one.
func (h *house) kept(t *testing.T) {
	t.Helper()
	gs, ps := h.places(t)
	for g, x := range h.bag {
		status := int(h.word(h.l.G(g, layout.GStatus)))
		want := []int{status}
		if status == api.GIdle || status == api.GDead {
			want = nil
		}
		if status != x.what || !slices.Equal(gs[g], want) {
			t.Errorf("%d is %d, in the bag %d; its places suit %v", g, status, x.what, gs[g])
		}
	}
	for p := range h.l.Config().Procs {
		if ps[p] != 1 {
			t.Errorf("processor %d has %d places", p, ps[p])
		}
	}
}

// count holds Spinning against how many count.
func (h *house) count(t *testing.T) {
	t.Helper()
	count, more := uint64(0), uint64(0)
	counts := func(is bool) {
		if is {
			count++
		}
	}
	counts(h.mon.Counts())
	if h.mon.Hand() != api.None {
		more++
	}
	for one, x := range h.threads {
		counts(x.Spins())
		counts(x.Counts())
		_, spins := wake.Given(h.word(h.l.Thread(one, layout.Given)))
		counts(spins)
		if x.Hand() != api.None {
			more++
		}
	}
	w := h.word(h.l.Word(layout.Spinning))
	if w < count || w > count+more+uint64(len(h.threads)) || w > uint64(h.l.Config().Procs) {
		t.Errorf("Spinning %d, where %d count, and %d are handed", w, count, more)
	}
}

// rests tells whether all has come to rest: each thread that is there is blocked, or lets its goroutine run, and the monitor is between two passes.
func (h *house) rests() bool {
	if !h.mon.Between() {
		return false
	}
	for _, x := range h.threads[:h.made()] {
		if !x.Blocked(h.m) && x.Does() != thread.Runs {
			return false
		}
	}
	return true
}

// fine holds that, where all has come to rest, no work waits, or no processor is idle.
func (h *house) fine(t *testing.T) {
	t.Helper()
	if !h.rests() {
		return
	}
	list, _ := globq.List(h.l, h.m)
	work := len(list) > 0
	for p := range h.l.Config().Procs {
		work = work || !ring.Empty(h.l, h.m, p)
	}
	idle, _ := idlep.List(h.l, h.m)
	if work && len(idle) > 0 {
		t.Errorf("work waits, and %v are idle", idle)
	}
	if work {
		h.tally.work++
	}
	if len(idle) > 0 {
		h.tally.room++
	}
}

// goes goes on with a house, entry by entry, for long, or until all that there are wait.
func (h *house) goes(t *testing.T) {
	t.Helper()
	var w weights
	from := 0
	for n := range 8000 {
		if n%400 == 0 {
			w, from = phases[h.below(len(phases))], h.below(len(h.threads))
		}
		h.entry(t, w, from)
		h.kept(t)
		h.count(t)
		h.fine(t)
		if h.m.Bad() != 0 {
			t.Errorf("bad: %d", h.m.Bad())
		}
		if t.Failed() {
			t.Fatalf("entry %d", n)
		}
		if n%1000 == 999 && h.over() {
			return
		}
	}
}

// Promise 27.3: however many threads, and a monitor, go on between one another, each event is one that a bag of goroutines may have, as their programs say; at each step each goroutine is in one place, which suits its Status, and each processor in one; and where all rest no work waits, or no processor is idle.
func TestMany(t *testing.T) {
	tally := &tally{kinds: map[int]int{}, does: map[int]int{}}
	for _, c := range []api.Config{
		{Procs: 1, Threads: 1, Gs: 3}, {Procs: 1, Threads: 3, Gs: 5}, {Procs: 2, Threads: 2, Gs: 4}, {Procs: 2, Threads: 4, Gs: 8}, {Procs: 3, Threads: 5, Gs: 12}, {Procs: 5, Threads: 6, Gs: 30},
	} {
		for seed := range uint64(50) {
			openHouse(t, c, seed, tally).goes(t)
		}
	}
	for kind := api.EvStart; kind <= api.EvExit; kind++ {
		if tally.kinds[kind] < 50 {
			t.Errorf("events of the kind %d: %d", kind, tally.kinds[kind])
		}
	}
	for does := thread.Naps; does <= thread.Rests; does++ {
		if tally.does[does] < 500 {
			t.Errorf("a thread did %d: %d times", does, tally.does[does])
		}
	}
	if tally.handed < 100 || tally.work < 500 || tally.room < 500 {
		t.Errorf("%d were handed over; where all rested work waited %d times, and %d times a processor was idle", tally.handed, tally.work, tally.room)
	}
}
