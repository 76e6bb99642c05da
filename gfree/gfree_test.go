package gfree_test

import (
	"math"
	"slices"
	"testing"

	"turnspit/api"
	"turnspit/cell"
	"turnspit/gfree"
	"turnspit/layout"
	"turnspit/lock"
)

const (
	gs      = 4 // how many the config has
	threads = 5
	gsLock  = 1
)

// lay is a layout, and its memory.
func lay(t *testing.T) (*layout.Layout, *cell.Mem) {
	t.Helper()
	l, e := layout.Of(api.Config{Procs: 1, Threads: threads, Gs: gs})
	if e != api.OK {
		t.Fatalf("layout: %v", e)
	}
	m, e := cell.New(l.Len())
	if e != api.OK {
		t.Fatalf("memory: %v", e)
	}
	return l, m
}

// machine is what both machines have.
type machine interface {
	Step(m *cell.Mem) bool
	Done() bool
}

// step does a step that is to do just this access, and to be done, or not.
func step(t *testing.T, m *cell.Mem, x machine, want api.Access, done bool) {
	t.Helper()
	clock := m.Clock()
	if got := x.Step(m); got != done || x.Done() != done {
		t.Errorf("step: %v, Done %v, want %v", got, x.Done(), done)
	}
	if m.Clock() != clock+1 || m.Last() != want {
		t.Errorf("%d accesses, the last one %v, want %v", m.Clock()-clock, m.Last(), want)
	}
}

// rests does steps that are to do nothing, of a machine that is done.
func rests(t *testing.T, m *cell.Mem, x machine) {
	t.Helper()
	clock := m.Clock()
	for range 3 {
		if !x.Step(m) || !x.Done() || m.Clock() != clock {
			t.Errorf("a step of what is done: Done %v, clock %d, want %d", x.Done(), m.Clock(), clock)
		}
	}
}

func load(who, at int, w uint64) api.Access {
	return api.Access{Kind: api.AcLoad, Who: who, At: at, Old: w, Done: true}
}

func store(who, at int, old, w uint64) api.Access {
	return api.Access{Kind: api.AcStore, Who: who, At: at, Old: old, New: w, Done: true}
}

// acquires does the steps of a machine by which it has the goroutines' lock, for the turn-th time.
func acquires(t *testing.T, l *layout.Layout, m *cell.Mem, x machine, who int, turn uint64) {
	t.Helper()
	if x.Done() {
		t.Errorf("done ahead of the first step")
	}
	step(t, m, x, api.Access{Kind: api.AcAdd, Who: who, At: l.Ticket(gsLock), Old: turn, New: turn + 1, Done: true}, false)
	step(t, m, x, load(who, l.Serving(gsLock), turn), false)
	step(t, m, x, store(who, l.Owner(gsLock), 0, uint64(who)+1), false)
}

// releases does the steps by which it gives the lock back, and is done.
func releases(t *testing.T, l *layout.Layout, m *cell.Mem, x machine, who int, turn uint64) {
	t.Helper()
	step(t, m, x, store(who, l.Owner(gsLock), uint64(who)+1, 0), false)
	step(t, m, x, api.Access{Kind: api.AcAdd, Who: who, At: l.Serving(gsLock), Old: turn, New: turn + 1, Done: true}, true)
	rests(t, m, x)
}

// is holds what a Get tells against what it should.
func is(t *testing.T, x *gfree.Get, want int) {
	t.Helper()
	for range 2 {
		if g := x.G(); g != want {
			t.Errorf("G: %d, want %d", g, want)
		}
	}
}

// all goes on with a machine until it is done.
func all(t *testing.T, m *cell.Mem, x machine) {
	t.Helper()
	for n := 0; !x.Step(m); n++ {
		if n > 100 {
			t.Fatalf("a machine that does not end")
		}
	}
}

// get gets one by itself.
func get(t *testing.T, l *layout.Layout, m *cell.Mem, want int) {
	t.Helper()
	x := gfree.New(l, 0)
	all(t, m, x)
	is(t, x, want)
}

// put puts some back, one by one.
func put(t *testing.T, l *layout.Layout, m *cell.Mem, gs ...int) {
	t.Helper()
	for _, g := range gs {
		all(t, m, gfree.NewPut(l, 0, g))
	}
}

// lists holds the list against what it should be; to look at it is no access.
func lists(t *testing.T, l *layout.Layout, m *cell.Mem, right bool, want ...int) {
	t.Helper()
	clock := m.Clock()
	if got, is := gfree.List(l, m); is != right || !slices.Equal(got, want) {
		t.Errorf("List: %v, %v, want %v, %v", got, is, want, right)
	}
	if m.Clock() != clock {
		t.Errorf("List did %d accesses", m.Clock()-clock)
	}
}

// changed holds all words but the locks' against those of before, but for the words that are named with what they should be.
func changed(t *testing.T, m *cell.Mem, before []uint64, want map[int]uint64) {
	t.Helper()
	for at, w := range want {
		before[at] = w
	}
	if got := m.Words(); !slices.Equal(got[layout.GlobHead:], before[layout.GlobHead:]) || !slices.Equal(got[:3], before[:3]) {
		t.Errorf("words: %v, want %v", got, before)
	}
}

// whos are threads at both ends, below 0 and beyond.
var whos = []int{0, 1, threads - 1, -1, threads, 1000, math.MaxInt}

// Promise 11.1: to get one where the list is empty: Gs is loaded, and stored with 1 more, access by access.
func TestGetNew(t *testing.T) {
	for _, who := range whos {
		for have := range gs {
			l, m := lay(t)
			at := l.Word(layout.Gs)
			m.Store(0, at, uint64(have))
			before := m.Words()
			x := gfree.New(l, who)
			is(t, x, api.None)
			acquires(t, l, m, x, who, 0)
			step(t, m, x, load(who, l.Word(layout.FreeG), 0), false)
			is(t, x, api.None)
			step(t, m, x, load(who, at, uint64(have)), false)
			is(t, x, api.None)
			step(t, m, x, store(who, at, uint64(have), uint64(have)+1), false)
			is(t, x, have)
			releases(t, l, m, x, who, 0)
			is(t, x, have)
			changed(t, m, before, map[int]uint64{at: uint64(have) + 1})
		}
	}
}

// Promise 11.1: where the list is empty, and Gs is the config's, or beyond, there is none, and nothing is stored.
func TestGetNone(t *testing.T) {
	for _, have := range []uint64{gs, gs + 1, 1 << 32, 1<<32 + 1, 1 << 63, math.MaxUint64} {
		l, m := lay(t)
		at := l.Word(layout.Gs)
		m.Store(0, at, have)
		before := m.Words()
		x := gfree.New(l, 2)
		acquires(t, l, m, x, 2, 0)
		step(t, m, x, load(2, l.Word(layout.FreeG), 0), false)
		step(t, m, x, load(2, at, have), false)
		is(t, x, api.None)
		releases(t, l, m, x, 2, 0)
		is(t, x, api.None)
		changed(t, m, before, nil)
	}
}

// Promise 11.1: of a config of most goroutines the last one is got, and no other one behind it.
func TestGetOfMost(t *testing.T) {
	l, _ := layout.Of(api.Config{Procs: 1, Threads: 1, Gs: api.MaxGs})
	m, _ := cell.New(l.Len())
	m.Store(0, l.Word(layout.Gs), api.MaxGs-1)
	get(t, l, m, api.MaxGs-1)
	get(t, l, m, api.None)
	put(t, l, m, api.MaxGs-1)
	lists(t, l, m, true, api.MaxGs-1)
	get(t, l, m, api.MaxGs-1)
}

// Promise 11.1: to get one that lies on the list: its GLink is stored as FreeG, access by access; Gs is not asked.
func TestGetFree(t *testing.T) {
	for _, who := range whos {
		for g := range gs {
			for _, link := range []uint64{0, uint64((g+1)%gs) + 1} {
				l, m := lay(t)
				free := l.Word(layout.FreeG)
				m.Store(0, free, uint64(g)+1)
				m.Store(0, l.G(g, layout.GLink), link)
				before := m.Words()
				x := gfree.New(l, who)
				acquires(t, l, m, x, who, 0)
				step(t, m, x, load(who, free, uint64(g)+1), false)
				is(t, x, api.None)
				step(t, m, x, load(who, l.G(g, layout.GLink), link), false)
				is(t, x, api.None)
				step(t, m, x, store(who, free, uint64(g)+1, link), false)
				is(t, x, g)
				releases(t, l, m, x, who, 0)
				is(t, x, g)
				changed(t, m, before, map[int]uint64{free: link})
			}
		}
	}
}

// Promise 11.1: to put one back: it comes ahead of what lay there, access by access.
func TestPut(t *testing.T) {
	for _, who := range whos {
		for g := range gs {
			for _, first := range []uint64{0, uint64((g+2)%gs) + 1} {
				l, m := lay(t)
				free, link := l.Word(layout.FreeG), l.G(g, layout.GLink)
				m.Store(0, free, first)
				m.Store(0, link, 99)
				before := m.Words()
				x := gfree.NewPut(l, who, g)
				acquires(t, l, m, x, who, 0)
				step(t, m, x, load(who, free, first), false)
				step(t, m, x, store(who, link, 99, first), false)
				step(t, m, x, store(who, free, first, uint64(g)+1), false)
				releases(t, l, m, x, who, 0)
				changed(t, m, before, map[int]uint64{free: uint64(g) + 1, link: first})
			}
		}
	}
}

// Promises 11.1 and 11.2: what was put last is got first; when the list is empty, those come that were never had.
func TestPutsAndGets(t *testing.T) {
	l, m := lay(t)
	lists(t, l, m, true)
	get(t, l, m, 0)
	get(t, l, m, 1)
	get(t, l, m, 2)
	lists(t, l, m, true)
	put(t, l, m, 1)
	lists(t, l, m, true, 1)
	put(t, l, m, 0, 2)
	lists(t, l, m, true, 2, 0, 1)
	get(t, l, m, 2)
	lists(t, l, m, true, 0, 1)
	get(t, l, m, 0)
	get(t, l, m, 1)
	lists(t, l, m, true)
	get(t, l, m, 3)
	get(t, l, m, api.None)
	get(t, l, m, api.None)
	put(t, l, m, 3, 0, 1, 2)
	lists(t, l, m, true, 2, 1, 0, 3)
	for _, g := range []int{2, 1, 0, 3, api.None} {
		get(t, l, m, g)
	}
	if m.Bad() != 0 {
		t.Errorf("bad: %d", m.Bad())
	}
}

// The chapter's example.
func TestExample(t *testing.T) {
	l, _ := layout.Of(api.Config{Procs: 1, Threads: 1, Gs: 2})
	m, _ := cell.New(l.Len())
	get(t, l, m, 0)
	get(t, l, m, 1)
	get(t, l, m, api.None)
	put(t, l, m, 0)
	get(t, l, m, 0)
}

// Promise 11.1: who has to wait for the lock looks at nothing else, until it has it; so both machines.
func TestWaits(t *testing.T) {
	makes := []func(l *layout.Layout) machine{
		func(l *layout.Layout) machine { return gfree.New(l, 0) },
		func(l *layout.Layout) machine { return gfree.NewPut(l, 0, 1) },
	}
	for _, makeOne := range makes {
		l, m := lay(t)
		put(t, l, m, 3)
		all(t, m, lock.New(l, gsLock, 4))
		x := makeOne(l)
		x.Step(m)
		for range 20 {
			step(t, m, x, load(0, l.Serving(gsLock), 1), false)
		}
		all(t, m, lock.NewRelease(l, gsLock, 4))
		step(t, m, x, load(0, l.Serving(gsLock), 2), false)
		step(t, m, x, store(0, l.Owner(gsLock), 0, 1), false)
		step(t, m, x, load(0, l.Word(layout.FreeG), 4), false)
		all(t, m, x)
	}
}

// Promise 11.1: the scheduler's lock has no part in it: whoever has that keeps nobody from getting, and putting.
func TestOtherLock(t *testing.T) {
	l, m := lay(t)
	all(t, m, lock.New(l, 0, 3))
	get(t, l, m, 0)
	put(t, l, m, 0)
	if !slices.Equal(m.Words()[:6], []uint64{1, 0, 4, 2, 2, 0}) {
		t.Errorf("the locks' words: %v", m.Words()[:6])
	}
}

// Promise 11.1: what another machine does between two steps, without the lock, is seen as it is then.
func TestBetween(t *testing.T) {
	l, m := lay(t)
	free, at := l.Word(layout.FreeG), l.Word(layout.Gs)
	x := gfree.New(l, 0)
	for range 4 {
		x.Step(m)
	}
	m.Store(9, free, 3) // behind the load of FreeG
	m.Store(9, at, 2)
	step(t, m, x, load(0, at, 2), false)
	m.Store(9, at, 0)
	step(t, m, x, store(0, at, 0, 3), false)
	is(t, x, 2)
	all(t, m, x)
	y := gfree.NewPut(l, 0, 1)
	for range 4 {
		y.Step(m)
	}
	m.Store(9, free, 4)
	step(t, m, y, store(0, l.G(1, layout.GLink), 0, 3), false)
	step(t, m, y, store(0, free, 4, 2), false)
	all(t, m, y)
}

// Promise 11.1: one that there is not is put as its word says, but it has no GLink: that store is bad, and the list is what FreeG is then.
func TestPutOfNone(t *testing.T) {
	for _, g := range []int{math.MinInt, -2, -1, gs, gs + 1, api.MaxGs, math.MaxInt} {
		l, m := lay(t)
		put(t, l, m, 2)
		free, before := l.Word(layout.FreeG), m.Words()
		x := gfree.NewPut(l, 1, g)
		acquires(t, l, m, x, 1, 1)
		step(t, m, x, load(1, free, 3), false)
		step(t, m, x, api.Access{Kind: api.AcStore, Who: 1, At: api.None, New: 3}, false)
		step(t, m, x, store(1, free, 3, uint64(g)+1), false)
		releases(t, l, m, x, 1, 1)
		changed(t, m, before, map[int]uint64{free: uint64(g) + 1})
		if m.Bad() != 1 {
			t.Errorf("put of %d: bad %d", g, m.Bad())
		}
		lists(t, l, m, g == -1) // the word of -1 is 0: none
	}
}

// Promise 11.1: a FreeG that is no goroutine is one that has no GLink: that load is bad, and the list is empty behind it.
func TestGetOfNone(t *testing.T) {
	for _, w := range []uint64{gs + 1, api.MaxGs + 7, 1 << 32, 1 << 63, math.MaxUint64} {
		l, m := lay(t)
		free := l.Word(layout.FreeG)
		m.Store(0, free, w)
		x := gfree.New(l, 0)
		acquires(t, l, m, x, 0, 0)
		step(t, m, x, load(0, free, w), false)
		step(t, m, x, api.Access{Kind: api.AcLoad, At: api.None}, false)
		step(t, m, x, store(0, free, w, 0), false)
		is(t, x, int(w-1))
		releases(t, l, m, x, 0, 0)
		lists(t, l, m, true)
	}
}

// Promise 11.2: a list that comes to one twice is not right; each one ahead of that is told once.
func TestListOfACircle(t *testing.T) {
	cases := []struct {
		first uint64
		links [gs]uint64
		want  []int
	}{
		{1, [gs]uint64{1, 0, 0, 0}, []int{0}},
		{4, [gs]uint64{0, 0, 0, 4}, []int{3}},
		{2, [gs]uint64{2, 1, 0, 0}, []int{1, 0}},
		{1, [gs]uint64{2, 3, 4, 1}, []int{0, 1, 2, 3}},
		{4, [gs]uint64{2, 3, 2, 1}, []int{3, 0, 1, 2}},
		{3, [gs]uint64{0, 2, 2, 1}, []int{2, 1}},
	}
	for _, x := range cases {
		l, m := lay(t)
		m.Store(0, l.Word(layout.FreeG), x.first)
		for g, link := range x.links {
			m.Store(0, l.G(g, layout.GLink), link)
		}
		lists(t, l, m, false, x.want...)
	}
}

// Promise 11.2: a list that begins at, or comes to, a word which is no goroutine is not right; those ahead are told.
func TestListOfNone(t *testing.T) {
	for _, w := range []uint64{gs + 1, gs + 2, api.MaxGs, api.MaxGs + 1, 1 << 32, 1<<32 + 1, 1 << 63, 1<<63 + 1, math.MaxUint64} {
		l, m := lay(t)
		m.Store(0, l.Word(layout.FreeG), w)
		lists(t, l, m, false)
		m.Store(0, l.Word(layout.FreeG), gs)
		m.Store(0, l.G(gs-1, layout.GLink), 1)
		m.Store(0, l.G(0, layout.GLink), w)
		lists(t, l, m, false, gs-1, 0)
	}
}

// Promise 11.2: the list is told by FreeG and the GLinks alone; what is told is not kept.
func TestListLooksAtLinks(t *testing.T) {
	l, m := lay(t)
	for at := range l.Len() {
		m.Store(0, at, 3)
	}
	m.Store(0, l.Word(layout.FreeG), 4)
	m.Store(0, l.G(3, layout.GLink), 1)
	m.Store(0, l.G(0, layout.GLink), 2)
	m.Store(0, l.G(1, layout.GLink), 0)
	lists(t, l, m, true, 3, 0, 1)
	got, _ := gfree.List(l, m)
	got[0], got[1] = 77, 78
	lists(t, l, m, true, 3, 0, 1)
	m.Store(0, l.Word(layout.FreeG), 0)
	lists(t, l, m, true)
}

// Promise 11.2: a list of all goroutines of a config of most.
func TestListOfMost(t *testing.T) {
	l, _ := layout.Of(api.Config{Procs: 1, Threads: 1, Gs: api.MaxGs})
	m, _ := cell.New(l.Len())
	want := make([]int, api.MaxGs)
	m.Store(0, l.Word(layout.FreeG), api.MaxGs)
	for g := range want {
		want[g] = api.MaxGs - 1 - g
		m.Store(0, l.G(g, layout.GLink), uint64(g)) // of goroutine 0 none
	}
	lists(t, l, m, true, want...)
	m.Store(0, l.G(0, layout.GLink), api.MaxGs)
	lists(t, l, m, false, want...)
}

// R1: no machine is done, and its steps do nothing; it got none.
func TestNoMachine(t *testing.T) {
	_, m := lay(t)
	var x *gfree.Get
	var y *gfree.Put
	rests(t, m, x)
	rests(t, m, y)
	is(t, x, api.None)
	rests(t, m, &gfree.Get{})
	rests(t, m, &gfree.Put{})
	is(t, &gfree.Get{}, api.None)
}

// Machines and lists without a memory, or without a layout, do not panic.
func TestNoMemoryNoLayout(t *testing.T) {
	l, m := lay(t)
	x := gfree.New(l, 0)
	x.Step(nil)
	is(t, x, api.None)
	gfree.NewPut(l, 0, 1).Step(nil)
	y, z := gfree.New(nil, 0), gfree.NewPut(nil, 0, 1)
	for range 20 {
		y.Step(m)
		z.Step(m)
	}
	is(t, y, api.None)
	if slices.ContainsFunc(m.Words(), func(w uint64) bool { return w != 0 }) {
		t.Errorf("words of a memory of another layout: %v", m.Words())
	}
	m.Store(0, l.Word(layout.FreeG), 1)
	for _, got := range [][]int{listOf(l, nil), listOf(nil, m), listOf(nil, nil)} {
		if len(got) != 0 {
			t.Errorf("List, without a memory, or a layout: %v", got)
		}
	}
	short, _ := cell.New(l.G(1, layout.GStatus)) // the GLinks of 1 and those behind it are not there
	short.Store(0, l.Word(layout.FreeG), 1)
	short.Store(0, l.G(0, layout.GLink), 3)
	lists(t, l, short, true, 0, 2)
}

// listOf is what List tells, right or not.
func listOf(l *layout.Layout, m *cell.Mem) []int {
	got, _ := gfree.List(l, m)
	return got
}

// worker gets goroutines, and puts them back, as a roll says.
type worker struct {
	who int
	get *gfree.Get
	put *gfree.Put
	had []int // those that it has
	may []int // the one that it puts back: it may lie on the list already, or not yet
}

// step does a step of a worker, and tells whether a Get ended without one.
func (x *worker) step(l *layout.Layout, m *cell.Mem, roll uint64) (none bool) {
	switch {
	case x.get == nil && x.put == nil && roll%2 == 0:
		x.get = gfree.New(l, x.who)
	case x.get == nil && x.put == nil && len(x.had) > 0:
		i := int(roll / 2 % uint64(len(x.had)))
		x.put, x.may = gfree.NewPut(l, x.who, x.had[i]), []int{x.had[i]}
		x.had = slices.Delete(x.had, i, i+1)
	case x.put != nil && x.put.Step(m):
		x.put, x.may = nil, nil
	case x.get != nil && x.get.Step(m):
		if none = x.get.G() == api.None; !none {
			x.had = append(x.had, x.get.G())
		}
		x.get = nil
	}
	return none
}

// Promise 11.3: however many get and put, between one another, none is had by two, or lost, and there are never more than the config's.
func TestNoneIsHadByTwo(t *testing.T) {
	l, m := lay(t)
	var workers [threads]*worker
	for who := range workers {
		workers[who] = &worker{who: who}
	}
	roll, nones := uint64(5), 0
	for range 40000 {
		roll = roll*6364136223846793005 + 1442695040888963407
		if workers[roll>>33%threads].step(l, m, roll>>40) {
			nones++
		}
		owners(t, l, m, workers[:])
		if t.Failed() {
			return
		}
	}
	if nones < 50 || m.Bad() != 0 {
		t.Errorf("%d Gets without one; bad %d", nones, m.Bad())
	}
	for _, x := range workers { // all come to an end, one by one in their turns
		for n := 0; x.get != nil || x.put != nil; n++ {
			for _, y := range workers {
				if y.get != nil || y.put != nil {
					y.step(l, m, 1)
				}
			}
			if n > 1000 {
				t.Fatalf("a machine that does not end")
			}
		}
	}
	free, right := gfree.List(l, m)
	for _, x := range workers {
		free = append(free, x.had...)
	}
	made, _ := m.Peek(l.Word(layout.Gs))
	slices.Sort(free)
	if !right || made != gs || !slices.Equal(free, []int{0, 1, 2, 3}) {
		t.Errorf("in the end: %v, %d made, %v", free, made, right)
	}
}

// owners looks that nobody has what another one has, or what lies on the list.
func owners(t *testing.T, l *layout.Layout, m *cell.Mem, workers []*worker) {
	t.Helper()
	var had []int
	for _, x := range workers {
		had = append(had, x.had...)
		if x.get != nil && x.get.G() != api.None {
			had = append(had, x.get.G())
		}
	}
	free, right := gfree.List(l, m)
	all := slices.Concat(had, free)
	slices.Sort(all)
	if !right || len(slices.Compact(slices.Clone(all))) != len(all) {
		t.Errorf("had: %v, free: %v, %v", had, free, right)
	}
	for _, x := range workers {
		if len(x.may) > 0 && slices.Contains(had, x.may[0]) {
			t.Errorf("%d is had by another one, while it is put back", x.may[0])
		}
	}
	if made, _ := m.Peek(l.Word(layout.Gs)); made > gs || slices.ContainsFunc(all, func(g int) bool { return g < 0 || g >= int(made) }) {
		t.Errorf("%d were made, had: %v, free: %v", made, had, free)
	}
}
