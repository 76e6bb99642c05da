package goro_test

import (
	"math"
	"slices"
	"testing"

	"turnspit/api"
	"turnspit/code"
	"turnspit/goro"
)

// read are programs of instructions.
func read(t *testing.T, programs ...[]api.Instr) *code.Code {
	t.Helper()
	var words []uint64
	for i, l := range programs {
		if i > 0 {
			words = append(words, 7)
		}
		for _, x := range l {
			w, e := code.Word(x)
			if e != api.OK {
				t.Fatalf("word of %v: %v", x, e)
			}
			words = append(words, w)
		}
	}
	c := code.Read(words)
	for p, l := range programs {
		if !slices.Equal(c.All(p), l) {
			t.Fatalf("program %d: %v, want %v", p, c.All(p), l)
		}
	}
	return c
}

// arena is an arena, which may be.
func arena(t *testing.T, c *code.Code, gs int) *goro.Arena {
	t.Helper()
	a, e := goro.New(c, gs)
	if e != api.OK || a == nil {
		t.Fatalf("New of %d: %v", gs, e)
	}
	return a
}

// begin begins a goroutine, which is to go well.
func begin(t *testing.T, a *goro.Arena, g, program int) {
	t.Helper()
	if e := a.Begin(g, program); e != api.OK {
		t.Errorf("Begin(%d, %d): %v", g, program, e)
	}
}

// place is what Place answers.
type place struct{ program, at, left, begun int }

// stands holds a goroutine's place, and its instruction, against what they should be; asking is to change neither.
func stands(t *testing.T, a *goro.Arena, g int, now api.Instr, want place) {
	t.Helper()
	for range 2 {
		var got place
		got.program, got.at, got.left, got.begun = a.Place(g)
		if got != want {
			t.Errorf("Place(%d): %v, want %v", g, got, want)
		}
		if x := a.Now(g); x != now {
			t.Errorf("Now(%d): %v, want %v", g, x, now)
		}
	}
}

// does does a step of a goroutine, which is to tell this instruction.
func does(t *testing.T, a *goro.Arena, g int, want api.Instr) {
	t.Helper()
	if x := a.Step(g); x != want {
		t.Errorf("Step(%d): %v, want %v", g, x, want)
	}
}

func compute(n int) api.Instr { return api.Instr{Kind: api.InCompute, Arg: n} }

var (
	exit   = api.Instr{Kind: api.InExit}
	yields = api.Instr{Kind: api.InYield}
	parks  = api.Instr{Kind: api.InPark}
	calls  = api.Instr{Kind: api.InSyscall}
)

// Promise 10.1: New: there is a code, and gs is from 1 to MaxGs; none was begun.
func TestNew(t *testing.T) {
	c := read(t, []api.Instr{yields}, []api.Instr{parks})
	for _, gs := range []int{1, 2, 300, api.MaxGs - 1, api.MaxGs} {
		a := arena(t, c, gs)
		if a.Len() != gs || a.Code() != c {
			t.Errorf("of %d: Len %d", gs, a.Len())
		}
		for _, g := range []int{0, gs / 2, gs - 1} {
			stands(t, a, g, exit, place{})
		}
		begin(t, a, gs-1, 1)
		stands(t, a, gs-1, parks, place{program: 1, begun: 1})
	}
	for _, gs := range []int{math.MinInt, -1, 0, api.MaxGs + 1, math.MaxInt} {
		if a, e := goro.New(c, gs); a != nil || e != api.ErrArg {
			t.Errorf("New of %d: %v", gs, e)
		}
	}
	for _, gs := range []int{-1, 0, 1, api.MaxGs, api.MaxGs + 1} {
		if a, e := goro.New(nil, gs); a != nil || e != api.ErrArg {
			t.Errorf("New of no code, of %d: %v", gs, e)
		}
	}
}

// Promise 10.1: Begin of a goroutine, or a program, that there is not; of both it is the goroutine. It changes nothing.
func TestBeginErrors(t *testing.T) {
	a := arena(t, read(t, []api.Instr{compute(5)}, nil, []api.Instr{yields}), 3)
	begin(t, a, 0, 2)
	begin(t, a, 2, 0)
	does(t, a, 2, compute(5))
	programs := []int{math.MinInt, -1, 3, 4, math.MaxInt}
	for _, g := range []int{math.MinInt, -1, 3, 4, math.MaxInt} {
		for _, program := range append([]int{0, 2}, programs...) {
			if e := a.Begin(g, program); e != api.ErrRange {
				t.Errorf("Begin(%d, %d): %v", g, program, e)
			}
		}
		stands(t, a, g, exit, place{})
	}
	for g := range 3 {
		for _, program := range programs {
			if e := a.Begin(g, program); e != api.ErrNone {
				t.Errorf("Begin(%d, %d): %v", g, program, e)
			}
		}
	}
	stands(t, a, 0, yields, place{program: 2, begun: 1})
	stands(t, a, 1, exit, place{})
	stands(t, a, 2, compute(5), place{left: 4, begun: 1})
}

// Promises 10.1 and 10.2: of words there is one program at least; it may be begun, and is InExit for ever.
func TestEmptyProgram(t *testing.T) {
	a := arena(t, code.Read(nil), 1)
	if e := a.Begin(0, 1); e != api.ErrNone {
		t.Errorf("Begin of the program 1: %v", e)
	}
	begin(t, a, 0, 0)
	for range 5 {
		stands(t, a, 0, exit, place{begun: 1})
		does(t, a, 0, exit)
	}
}

// Promise 10.2: each instruction but InCompute and InExit is done by one step, which tells it with its Arg.
func TestEachInstruction(t *testing.T) {
	l := []api.Instr{{Kind: api.InSpawn, Arg: 1}, yields, parks, {Kind: api.InReady, Arg: 9}, {Kind: api.InReady, Arg: api.MaxGs - 1}, calls, {Kind: api.InSpawn}, yields}
	a := arena(t, read(t, []api.Instr{compute(3)}, l), 1)
	begin(t, a, 0, 1)
	for at, x := range l {
		stands(t, a, 0, x, place{program: 1, at: at, begun: 1})
		does(t, a, 0, x)
	}
	for range 50 {
		stands(t, a, 0, exit, place{program: 1, at: len(l), begun: 1})
		does(t, a, 0, exit)
	}
}

// Promise 10.2: behind an InExit it does not come, whatever lies there.
func TestExit(t *testing.T) {
	a := arena(t, read(t, []api.Instr{yields, exit, compute(4), exit, yields}), 1)
	begin(t, a, 0, 0)
	does(t, a, 0, yields)
	for range 50 {
		stands(t, a, 0, exit, place{at: 1, begun: 1})
		does(t, a, 0, exit)
	}
}

// Promise 10.2: an InCompute takes as many steps as its Arg says; what is left is told behind the first one, until none is.
func TestCompute(t *testing.T) {
	for arg := 1; arg <= 16; arg++ {
		a := arena(t, read(t, []api.Instr{compute(arg), yields}), 2)
		begin(t, a, 1, 0)
		stands(t, a, 1, compute(arg), place{begun: 1})
		for left := arg - 1; left > 0; left-- {
			does(t, a, 1, compute(arg))
			stands(t, a, 1, compute(arg), place{left: left, begun: 1})
		}
		does(t, a, 1, compute(arg))
		stands(t, a, 1, yields, place{at: 1, begun: 1})
		does(t, a, 1, yields)
		stands(t, a, 1, exit, place{at: 2, begun: 1})
	}
}

// Promise 10.2: of InComputes one behind the other each has its own steps; one may be the last instruction.
func TestComputes(t *testing.T) {
	l := []api.Instr{compute(1), compute(1), compute(3), compute(2), compute(16)}
	a := arena(t, read(t, l), 1)
	begin(t, a, 0, 0)
	for at, x := range l {
		for n := range x.Arg {
			want := place{at: at, left: x.Arg - n, begun: 1}
			if n == 0 {
				want.left = 0
			}
			stands(t, a, 0, x, want)
			does(t, a, 0, x)
		}
	}
	stands(t, a, 0, exit, place{at: len(l), begun: 1})
}

// Promise 10.1: what is begun again stands at its first instruction, wherever it was, and was begun once more.
func TestBeginAgain(t *testing.T) {
	long := []api.Instr{yields, compute(7), parks}
	c := read(t, long, []api.Instr{compute(2), calls})
	for steps := range 13 {
		for program, first := range []api.Instr{yields, compute(2)} {
			a := arena(t, c, 2)
			begin(t, a, 0, 0)
			for range steps {
				a.Step(0)
			}
			begin(t, a, 0, program)
			stands(t, a, 0, first, place{program: program, begun: 2})
			begin(t, a, 0, program)
			stands(t, a, 0, first, place{program: program, begun: 3})
			does(t, a, 0, first)
			stands(t, a, 1, exit, place{})
		}
	}
	a := arena(t, c, 1)
	begin(t, a, 0, 0)
	for range 4 {
		a.Step(0)
	}
	stands(t, a, 0, compute(7), place{at: 1, left: 4, begun: 1})
	begin(t, a, 0, 1)
	does(t, a, 0, compute(2))
	stands(t, a, 0, compute(2), place{program: 1, left: 1, begun: 2})
}

// Promise 10.2: one that was never begun is InExit, and stays so; steps of it leave nothing behind.
func TestNeverBegun(t *testing.T) {
	a := arena(t, read(t, []api.Instr{yields, compute(2)}), 3)
	begin(t, a, 1, 0)
	for range 10 {
		does(t, a, 0, exit)
		does(t, a, 2, exit)
		stands(t, a, 0, exit, place{})
		stands(t, a, 2, exit, place{})
	}
	stands(t, a, 1, yields, place{begun: 1})
	begin(t, a, 0, 0)
	stands(t, a, 0, yields, place{begun: 1})
}

// Promise 10.2: of goroutines that there are not: InExit, and nothing; no other one's place is another.
func TestNoSuchGoroutine(t *testing.T) {
	a := arena(t, read(t, []api.Instr{compute(4)}), 2)
	begin(t, a, 0, 0)
	begin(t, a, 1, 0)
	for _, g := range []int{math.MinInt, -2, -1, 2, 3, api.MaxGs, math.MaxInt} {
		does(t, a, g, exit)
		stands(t, a, g, exit, place{})
	}
	stands(t, a, 0, compute(4), place{begun: 1})
	stands(t, a, 1, compute(4), place{begun: 1})
}

// Of no arena: ErrArg, the zero instruction, 0, nothing. An arena that New did not make has no goroutines.
func TestNoArena(t *testing.T) {
	var none *goro.Arena
	for _, g := range []int{math.MinInt, -1, 0, 1, math.MaxInt} {
		if e := none.Begin(g, 0); e != api.ErrArg {
			t.Errorf("Begin: %v", e)
		}
		if e := none.Begin(g, -1); e != api.ErrArg {
			t.Errorf("Begin: %v", e)
		}
		bare := &goro.Arena{}
		if e := bare.Begin(g, 0); e != api.ErrRange {
			t.Errorf("Begin: %v", e)
		}
		for _, a := range []*goro.Arena{none, bare} {
			does(t, a, g, api.Instr{})
			stands(t, a, g, api.Instr{}, place{})
			if a.Len() != 0 || a.Code() != nil {
				t.Errorf("Len %d, Code %v", a.Len(), a.Code())
			}
		}
	}
}

// R3: two arenas of one code do not meddle with one another.
func TestArenasApart(t *testing.T) {
	c := read(t, []api.Instr{compute(3), yields})
	a, b := arena(t, c, 1), arena(t, c, 1)
	begin(t, a, 0, 0)
	stands(t, b, 0, exit, place{})
	begin(t, b, 0, 0)
	does(t, a, 0, compute(3))
	stands(t, a, 0, compute(3), place{left: 2, begun: 1})
	stands(t, b, 0, compute(3), place{begun: 1})
}

// unrolled are a program's instructions, each InCompute as often as its Arg says.
func unrolled(l []api.Instr) []api.Instr {
	var all []api.Instr
	for _, x := range l {
		times := 1
		if x.Kind == api.InCompute {
			times = x.Arg
		}
		for range times {
			all = append(all, x)
		}
	}
	return all
}

// Promise 10.3: whatever others do, a goroutine's steps are its program's instructions, and InExit for ever behind them.
func TestWhateverOthersDo(t *testing.T) {
	c := read(t,
		[]api.Instr{compute(16), yields, compute(1), compute(2), parks},
		[]api.Instr{{Kind: api.InSpawn, Arg: 3}, compute(9), {Kind: api.InReady, Arg: 2}},
		nil,
		[]api.Instr{calls, calls, compute(5)})
	const gs = 7
	a := arena(t, c, gs)
	var want [gs][]api.Instr
	var begun [gs]int
	roll, done := uint64(11), 0
	for range 20000 {
		roll = roll*6364136223846793005 + 1442695040888963407
		g, program := int(roll>>33%gs), int(roll>>50%4)
		if roll>>40%40 == 0 {
			begin(t, a, g, program)
			begun[g]++
			want[g] = unrolled(c.All(program))
		}
		next := exit
		if len(want[g]) > 0 {
			next, want[g] = want[g][0], want[g][1:]
			done++
		}
		if now, x := a.Now(g), a.Step(g); now != next || x != next {
			t.Fatalf("of %d: Now %v, Step %v, want %v", g, now, x, next)
		}
		if _, _, _, n := a.Place(g); n != begun[g] {
			t.Fatalf("%d was begun %d times, want %d", g, n, begun[g])
		}
	}
	if done < 2000 {
		t.Errorf("only %d instructions were done", done)
	}
}

// The chapter's example.
func TestExample(t *testing.T) {
	a := arena(t, read(t, []api.Instr{compute(2), yields}), 1)
	begin(t, a, 0, 0)
	for _, x := range []api.Instr{compute(2), compute(2), yields, exit, exit} {
		does(t, a, 0, x)
	}
}
