package spawn_test

import (
	"math"
	"slices"
	"testing"

	"turnspit/acts"
	"turnspit/api"
	"turnspit/cell"
	"turnspit/code"
	"turnspit/goro"
	"turnspit/layout"
	"turnspit/spawn"
	"turnspit/wake"
)

const (
	procs   = 3
	threads = 70 // how many the config has
	gs      = 400
	round   = 1 << 32
	less    = round - 1
	start   = round - 2 // where rings begin and end at first
	gsLock  = 1
)

// whos are threads at both ends, below 0 and beyond.
var whos = []int{0, 1, threads - 1, -1, threads, 1000, math.MaxInt}

// nones are neither processors, nor goroutines, nor programs.
var nones = []int{math.MinInt, -2, -1, 1 << 32, math.MaxInt - 1}

// lay is a layout, and its memory, whose words are stale, but those that tell of idle ones, of the queue, of free goroutines, and of rings, which are empty: 0, and rings' ends just ahead of where they go round, as are the turns at the locks. Somebody spins, so that nobody is woken.
func lay(t *testing.T) (*layout.Layout, *cell.Mem) {
	t.Helper()
	l, m := acts.Lay(t, api.Config{Procs: procs, Threads: threads, Gs: gs})
	for at := range l.Len() {
		m.Store(99, at, 7)
	}
	for w := layout.GlobHead; w <= layout.Mask; w++ {
		m.Store(99, l.Word(w), 0)
	}
	for p := range procs {
		m.Store(99, l.Proc(p, layout.Head), start)
		m.Store(99, l.Proc(p, layout.Tail), start)
		m.Store(99, l.Proc(p, layout.Next), 0)
	}
	for lock := range 2 {
		m.Store(99, l.Ticket(lock), round-1)
		m.Store(99, l.Serving(lock), round-1)
	}
	m.Store(99, l.Word(layout.Spinning), 1)
	return l, m
}

// makeArena is an arena of three programs: InCompute 4; InYield, InPark; InSyscall.
func makeArena(t *testing.T) *goro.Arena {
	t.Helper()
	a, e := goro.New(code.Read([]uint64{25, 7, 3, 4, 7, 6}), gs)
	if e != api.OK {
		t.Fatalf("arena: %v", e)
	}
	return a
}

// seen is what a Spawn tells.
type seen struct {
	g       int
	refused bool
	holds   []int
	hand    int
	counts  bool
}

// is tells whether both are the same.
func (a seen) is(b seen) bool {
	return a.g == b.g && a.refused == b.refused && slices.Equal(a.holds, b.holds) && a.hand == b.hand && a.counts == b.counts
}

// trial is a Spawn on its way, and what it is to tell from now on.
type trial struct {
	*testing.T
	l    *layout.Layout
	m    *cell.Mem
	a    *goro.Arena
	who  int
	p    int
	x    *spawn.Spawn
	want seen
}

// begin is a Spawn at its beginning.
func begin(t *testing.T, l *layout.Layout, m *cell.Mem, a *goro.Arena, who, p, program int) *trial {
	t.Helper()
	y := &trial{T: t, l: l, m: m, a: a, who: who, p: p, want: seen{g: api.None, hand: api.None}}
	y.x = spawn.New(l, a, who, p, program)
	if y.x.Done() {
		t.Errorf("done ahead of the first step")
	}
	y.tells()
	return y
}

// tells holds what it tells against what it is to tell.
func (y *trial) tells() {
	y.Helper()
	for range 2 {
		got := seen{y.x.G(), y.x.Refused(), y.x.Holds(), y.x.Hand(), y.x.Counts()}
		if !got.is(y.want) {
			y.Errorf("told %v, want %v", got, y.want)
		}
		for i := range got.holds { // an answer that is changed changes nothing
			got.holds[i] = -9
		}
	}
}

// goes does steps that are to do these accesses, none of which ends it.
func (y *trial) goes(list ...acts.Act) {
	y.Helper()
	for i, a := range list {
		acts.Step(y, y.m, y.x, y.who, a, false)
		y.tells()
		if y.Failed() {
			y.Fatalf("step %d of %d", i, len(list))
		}
	}
}

// ends does the last step; those behind it do nothing.
func (y *trial) ends(a acts.Act) {
	y.Helper()
	acts.Step(y, y.m, y.x, y.who, a, true)
	y.rests()
}

// rests does steps that are to do nothing, of one that is done.
func (y *trial) rests() {
	y.Helper()
	y.tells()
	acts.Rests(y, y.m, y.x)
	y.tells()
}

// is is what stands at a place.
func (y *trial) is(at int) uint64 {
	w, _ := y.m.Peek(at)
	return w
}

// getsNew gets one that was never had, behind so many.
func (y *trial) getsNew(had uint64) {
	y.Helper()
	gs := y.l.Word(layout.Gs)
	y.goes(acts.Acquire(y.l, gsLock, y.who)...)
	y.goes(acts.Load(y.l.Word(layout.FreeG)), acts.Load(gs), acts.Store(gs, had+1))
	y.goes(acts.Release(y.l, gsLock)...)
}

// getsFree gets one that was given back, with another one behind it.
func (y *trial) getsFree(g int, behind uint64) {
	y.Helper()
	free := y.l.Word(layout.FreeG)
	y.goes(acts.Acquire(y.l, gsLock, y.who)...)
	y.goes(acts.Load(free), acts.Load(y.l.G(g, layout.GLink)), acts.Store(free, behind))
	y.goes(acts.Release(y.l, gsLock)...)
}

// spawns spawns the one that was got: from here on it is in the hand.
func (y *trial) spawns(g int) {
	y.Helper()
	y.want.g, y.want.holds = g, []int{g}
	y.goes(acts.Store(y.l.G(g, layout.GStatus), api.GRunnable))
	y.goes(acts.Load(y.l.Proc(y.p, layout.Next)))
}

// lays lets it be the next one, where there was none.
func (y *trial) lays() {
	y.Helper()
	next := y.l.Proc(y.p, layout.Next)
	w := uint64(y.want.g) + 1
	y.want.holds = nil
	y.goes(acts.Swap(next, 0, w))
}

// wakesNobody wakes nobody, as somebody spins.
func (y *trial) wakesNobody() {
	y.Helper()
	y.ends(acts.Load(y.l.Word(layout.Spinning)))
}

// wakesSome wakes some thread, as layer 19 does, and tells what that tells.
func (y *trial) wakesSome() {
	y.Helper()
	some := wake.NewWake(y.l, y.who)
	acts.Same(y, y.m, y.x, some, true, func() {
		y.want.hand, y.want.counts = some.Holds(), some.Counts()
		y.tells()
	})
	y.rests()
}

// locked are a lock's words, when it was had once, and given back, and what else is named.
func locked(l *layout.Layout, lock int, want map[int]uint64) map[int]uint64 {
	want[l.Ticket(lock)], want[l.Serving(lock)], want[l.Owner(lock)] = 0, 0, 0
	return want
}

// place is where a goroutine stands.
type place struct{ program, at, left, begun int }

// where are the places of all goroutines.
func where(a *goro.Arena) []place {
	var list []place
	for g := range a.Len() {
		var x place
		x.program, x.at, x.left, x.begun = a.Place(g)
		list = append(list, x)
	}
	return list
}

// Promises 22.1 and 22.2: a Spawn that gets a goroutine that was never had, access by access: it begins with the program, is runnable, and lies in the ring, as the next one; nothing else is touched.
func TestSpawnNew(t *testing.T) {
	for i, who := range whos {
		for _, g := range []int{0, 1, 200, gs - 1} {
			l, m := lay(t)
			a := makeArena(t)
			p, program := i%procs, g%3
			m.Store(99, l.Word(layout.Gs), uint64(g))
			before, stood := m.Words(), where(a)
			y := begin(t, l, m, a, who, p, program)
			y.getsNew(uint64(g))
			y.spawns(g)
			y.lays()
			y.wakesNobody()
			acts.Changed(t, m, before, locked(l, gsLock, map[int]uint64{l.Word(layout.Gs): uint64(g) + 1, l.G(g, layout.GStatus): api.GRunnable, l.Proc(p, layout.Next): uint64(g) + 1}))
			stood[g] = place{program: program, begun: 1}
			if !slices.Equal(where(a), stood) || m.Bad() != 0 {
				t.Errorf("%d, with program %d: %v; bad %d", g, program, where(a)[g], m.Bad())
			}
		}
	}
}

// Promises 22.1 and 22.2: a Spawn that gets one out of the free list, access by access; Gs is left as it is, and so is the one behind.
func TestSpawnFree(t *testing.T) {
	for i, who := range whos {
		for _, behind := range []uint64{0, 9} {
			l, m := lay(t)
			a := makeArena(t)
			p, program, g := i%procs, i%3, 5*i
			for range 4 { // it is somewhere in a program, and was begun some times
				a.Begin(g, 1)
				a.Step(g)
			}
			m.Store(99, l.Word(layout.FreeG), uint64(g)+1)
			m.Store(99, l.G(g, layout.GLink), behind)
			m.Store(99, l.Word(layout.Gs), gs)
			before, stood := m.Words(), where(a)
			y := begin(t, l, m, a, who, p, program)
			y.getsFree(g, behind)
			y.spawns(g)
			y.lays()
			y.wakesNobody()
			acts.Changed(t, m, before, locked(l, gsLock, map[int]uint64{l.Word(layout.FreeG): behind, l.G(g, layout.GStatus): api.GRunnable, l.Proc(p, layout.Next): uint64(g) + 1}))
			stood[g] = place{program: program, begun: 5}
			if !slices.Equal(where(a), stood) || m.Bad() != 0 {
				t.Errorf("%d: %v; bad %d", g, where(a)[g], m.Bad())
			}
		}
	}
}

// Promises 22.1 to 22.3: where there is none, it is refused, once it is done; nothing lasts but the lock's turns: no word, and no goroutine's place.
func TestRefused(t *testing.T) {
	for i, had := range []uint64{gs, gs + 1, round, round + 1, 1 << 63, math.MaxUint64} {
		who := whos[i%len(whos)]
		l, m := lay(t)
		a := makeArena(t)
		for g := range gs {
			a.Begin(g, g%3)
		}
		m.Store(99, l.Word(layout.Spinning), 0)
		m.Store(99, l.Word(layout.Gs), had)
		m.Store(99, l.Word(layout.IdleP), 3) // nobody is woken
		before, stood := m.Words(), where(a)
		y := begin(t, l, m, a, who, 1, 2)
		y.goes(acts.Acquire(l, gsLock, who)...)
		y.goes(acts.Load(l.Word(layout.FreeG)), acts.Load(l.Word(layout.Gs)), acts.Release(l, gsLock)[0])
		y.want.refused = true
		y.ends(acts.Release(l, gsLock)[1])
		acts.Changed(t, m, before, locked(l, gsLock, map[int]uint64{}))
		if !slices.Equal(where(a), stood) || m.Bad() != 0 {
			t.Errorf("places changed; bad %d", m.Bad())
		}
	}
}

// Promise 22.1: it begins with its program once it is got, and ahead of its Status: not earlier, and once.
func TestWhenItBegins(t *testing.T) {
	l, m := lay(t)
	a := makeArena(t)
	y := begin(t, l, m, a, 4, 1, 1)
	for n := 0; n < 20 && y.is(l.Serving(gsLock)) != 0; n++ {
		if _, _, _, begun := a.Place(0); begun != 0 {
			t.Errorf("begun, and not got yet")
		}
		y.x.Step(m)
	}
	if got := where(a)[0]; got != (place{program: 1, begun: 1}) || y.is(l.G(0, layout.GStatus)) != 7 || y.x.G() != api.None {
		t.Errorf("got, and at %v", got)
	}
	y.spawns(0)
	a.Step(0) // nobody does so, but it would show that it begins once more
	y.lays()
	y.wakesNobody()
	if got := where(a)[0]; got != (place{program: 1, at: 1, begun: 1}) {
		t.Errorf("done, and at %v", got)
	}
}

// Promise 22.1: of a program that there is not nothing begins; a goroutine stands where it stood, or nowhere, and is spawned all the same.
func TestNoSuchProgram(t *testing.T) {
	for _, program := range append(nones, 3) {
		l, m := lay(t)
		a := makeArena(t)
		y := begin(t, l, m, a, 4, 1, program)
		y.getsNew(0)
		y.spawns(0)
		y.lays()
		y.wakesNobody()
		if got := where(a)[0]; got != (place{}) || a.Now(0) != (api.Instr{Kind: api.InExit}) {
			t.Errorf("program %d: at %v", program, got)
		}
	}
}

// Promise 22.1: of an arena that has fewer goroutines than the config the others are spawned likewise, and do not begin.
func TestSmallArena(t *testing.T) {
	l, m := lay(t)
	a, _ := goro.New(code.Read(nil), 1)
	m.Store(99, l.Word(layout.Gs), 1)
	y := begin(t, l, m, a, 4, 1, 0)
	y.getsNew(1)
	y.spawns(1)
	y.lays()
	y.wakesNobody()
	if got := where(a); !slices.Equal(got, []place{{}}) {
		t.Errorf("places: %v", got)
	}
}

// Promise 22.1: a FreeG that is no goroutine is got as its number says; its Status is at no place.
func TestNoSuchGoroutine(t *testing.T) {
	for _, w := range []uint64{gs + 1, round, 1 << 63, math.MaxUint64} {
		l, m := lay(t)
		a := makeArena(t)
		m.Store(99, l.Word(layout.FreeG), w)
		y := begin(t, l, m, a, 4, 1, 0)
		y.getsFree(api.None, 0)
		g := int(w - 1)
		y.want.g, y.want.holds = g, []int{g}
		y.goes(acts.Store(api.None, api.GRunnable), acts.Load(l.Proc(1, layout.Next)))
		y.lays()
		y.wakesNobody()
		if m.Bad() != 2 {
			t.Errorf("bad: %d", m.Bad())
		}
	}
}

// Promises 22.1 and 22.2: with a processor that there is not it is tried for ever to be the next one: it stays in the hand.
func TestNoSuchProcessor(t *testing.T) {
	for _, p := range append(nones, procs) {
		l, m := lay(t)
		y := begin(t, l, m, makeArena(t), 4, p, 0)
		y.getsNew(0)
		y.spawns(0)
		for range 20 {
			y.goes(acts.Swap(api.None, 0, 1), acts.Load(api.None))
		}
	}
}

// Machines that there are not: no one, one that nobody made.
func TestNoMachine(t *testing.T) {
	_, m := lay(t)
	var none *spawn.Spawn
	for _, x := range []*spawn.Spawn{none, {}} {
		y := &trial{T: t, m: m, x: x, want: seen{g: api.None, hand: api.None}}
		y.rests()
	}
	var end *spawn.End
	for _, x := range []*spawn.End{end, {}} {
		acts.Rests(t, m, x)
		if x.Ended() {
			t.Errorf("ended")
		}
	}
}

// Machines without a memory, a layout, or an arena do not panic.
func TestNoMemoryNoLayoutNoArena(t *testing.T) {
	l, m := lay(t)
	x, e := spawn.New(l, makeArena(t), 0, 1, 0), spawn.NewEnd(l, 0, 1)
	for range 3 {
		if x.Step(nil) || e.Step(nil) || x.Done() || e.Done() || x.G() != api.None || e.Ended() {
			t.Errorf("a step without a memory")
		}
	}
	y := begin(t, l, m, nil, 0, 1, 0)
	y.getsNew(0)
	y.spawns(0)
	y.lays()
	y.wakesNobody()
	before := m.Words()
	x, e = spawn.New(nil, makeArena(t), 0, 1, 0), spawn.NewEnd(nil, 0, 1)
	for range 60 {
		x.Step(m)
		e.Step(m)
		x.Holds()
		x.Hand()
	}
	acts.Changed(t, m, before, nil)
}
