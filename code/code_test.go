package code_test

import (
	"math"
	"slices"
	"testing"

	"turnspit/api"
	"turnspit/code"
)

const (
	most  = 1<<45 - 1 // what all bits behind the code are at their most, below 2^48
	parts = 7
)

// exit is the instruction behind a program's end.
var exit = api.Instr{Kind: api.InExit}

// of is a word of a code, with what is behind it.
func of(code, rest uint64) uint64 {
	return rest*8 + code
}

// check holds all that is told of programs against what they should be.
func check(t *testing.T, c *code.Code, want [][]api.Instr) {
	t.Helper()
	if c.Len() != len(want) {
		t.Fatalf("Len: %d, want %d", c.Len(), len(want))
	}
	for p, l := range want {
		if got := c.All(p); !slices.Equal(got, l) || c.Long(p) != len(l) {
			t.Errorf("program %d: %v, of %d, want %v", p, got, c.Long(p), l)
		}
		for i, x := range l {
			if got := c.At(p, i); got != x {
				t.Errorf("At(%d, %d): %v, want %v", p, i, got, x)
			}
		}
		for _, i := range []int{math.MinInt, -1, len(l), len(l) + 1, api.MaxCode, 1 << 32, math.MaxInt} {
			if got := c.At(p, i); got != exit {
				t.Errorf("At(%d, %d), beyond: %v", p, i, got)
			}
		}
	}
	for _, p := range []int{math.MinInt, -1, len(want), len(want) + 1, 1 << 32, math.MaxInt} {
		if c.Long(p) != 0 || len(c.All(p)) != 0 || c.At(p, 0) != exit || c.At(p, -1) != exit || c.At(p, math.MaxInt) != exit {
			t.Errorf("program %d, that there is not: %d, %v, %v", p, c.Long(p), c.All(p), c.At(p, 0))
		}
	}
}

// Promise 6.1: each code, with the bits behind it at 0, at their most, and between.
func TestInstr(t *testing.T) {
	cases := []struct {
		code, rest uint64
		want       api.Instr
		is         bool
	}{
		{0, 0, api.Instr{Kind: api.InExit}, true}, {0, 5, api.Instr{Kind: api.InExit}, true}, {0, most, api.Instr{Kind: api.InExit}, true},
		{1, 0, api.Instr{Kind: api.InCompute, Arg: 1}, true}, {1, 1, api.Instr{Kind: api.InCompute, Arg: 2}, true}, {1, 14, api.Instr{Kind: api.InCompute, Arg: 15}, true},
		{1, 15, api.Instr{Kind: api.InCompute, Arg: 16}, true}, {1, 16, api.Instr{Kind: api.InCompute, Arg: 1}, true}, {1, 31, api.Instr{Kind: api.InCompute, Arg: 16}, true}, {1, most, api.Instr{Kind: api.InCompute, Arg: 16}, true},
		{2, 0, api.Instr{Kind: api.InSpawn}, true}, {2, 4, api.Instr{Kind: api.InSpawn, Arg: 4}, true}, {2, 5, api.Instr{Kind: api.InSpawn}, true}, {2, 8, api.Instr{Kind: api.InSpawn, Arg: 3}, true}, {2, most, api.Instr{Kind: api.InSpawn, Arg: 1}, true},
		{3, 0, api.Instr{Kind: api.InYield}, true}, {3, 5, api.Instr{Kind: api.InYield}, true}, {3, most, api.Instr{Kind: api.InYield}, true},
		{4, 0, api.Instr{Kind: api.InPark}, true}, {4, 5, api.Instr{Kind: api.InPark}, true}, {4, most, api.Instr{Kind: api.InPark}, true},
		{5, 0, api.Instr{Kind: api.InReady}, true}, {5, 65535, api.Instr{Kind: api.InReady, Arg: 65535}, true}, {5, 65536, api.Instr{Kind: api.InReady}, true}, {5, 65541, api.Instr{Kind: api.InReady, Arg: 5}, true}, {5, most, api.Instr{Kind: api.InReady, Arg: 65535}, true},
		{6, 0, api.Instr{Kind: api.InSyscall}, true}, {6, 5, api.Instr{Kind: api.InSyscall}, true}, {6, most, api.Instr{Kind: api.InSyscall}, true},
		{7, 0, api.Instr{}, false}, {7, 5, api.Instr{}, false}, {7, most, api.Instr{}, false},
	}
	for _, x := range cases {
		if got, is := code.Instr(of(x.code, x.rest), 5); got != x.want || is != x.is {
			t.Errorf("code %d, %d behind it: %v, %v, want %v, %v", x.code, x.rest, got, is, x.want, x.is)
		}
	}
}

// Promise 6.1: what an InSpawn spawns is what is left by how many programs there are, taken as 1 at least.
func TestInstrPrograms(t *testing.T) {
	cases := []struct {
		rest     uint64
		programs int
		arg      int
	}{
		{0, 1, 0}, {77, 1, 0}, {77, 2, 1}, {77, 10, 7}, {77, 77, 0}, {77, 78, 77}, {77, math.MaxInt, 77}, {most, math.MaxInt, most}, {most, 1 << 45, most}, {most, most, 0}, {most, 1000, 831},
		{77, 0, 0}, {77, -1, 0}, {77, -2, 0}, {77, -78, 0}, {77, math.MinInt, 0}, {most, 0, 0}, {most, -1, 0}, {4096, 4097, 4096}, {4097, 4097, 0},
	}
	for _, x := range cases {
		if got, is := code.Instr(of(2, x.rest), x.programs); got != (api.Instr{Kind: api.InSpawn, Arg: x.arg}) || !is {
			t.Errorf("InSpawn of %d, of %d programs: %v, %v", x.rest, x.programs, got, is)
		}
	}
	for _, programs := range []int{math.MinInt, -1, 0, 1, 2, math.MaxInt} { // how many there are matters to no others
		for c, want := range map[uint64]api.Instr{0: {}, 1: {Kind: api.InCompute, Arg: 12}, 3: {Kind: api.InYield}, 4: {Kind: api.InPark}, 5: {Kind: api.InReady, Arg: 11}, 6: {Kind: api.InSyscall}} {
			if got, is := code.Instr(of(c, 11), programs); got != want || !is {
				t.Errorf("code %d, of %d programs: %v, %v", c, programs, got, is)
			}
		}
		if got, is := code.Instr(of(7, 11), programs); got != (api.Instr{}) || is {
			t.Errorf("code 7, of %d programs: %v, %v", programs, got, is)
		}
	}
}

// Promise 6.1: words of 2^48 and more are InExit, whatever their bits, those of code 7 too.
func TestInstrBeyond(t *testing.T) {
	if got, is := code.Instr(1<<48-1, 3); got != (api.Instr{}) || is {
		t.Errorf("2^48 - 1: %v, %v", got, is)
	}
	if got, is := code.Instr(1<<48-2, 3); got != (api.Instr{Kind: api.InSyscall}) || !is {
		t.Errorf("2^48 - 2: %v, %v", got, is)
	}
	for _, high := range []uint64{1 << 48, 1<<48 + 8, 1 << 49, 1 << 63, math.MaxUint64 - 7} {
		for c := range uint64(8) {
			if got, is := code.Instr(high+c, 3); got != exit || !is {
				t.Errorf("%#x: %v, %v", high+c, got, is)
			}
		}
	}
}

// Promises 6.1 and 6.2: programs of words, written out.
func TestRead(t *testing.T) {
	compute, yield, sys := api.Instr{Kind: api.InCompute, Arg: 4}, api.Instr{Kind: api.InYield}, api.Instr{Kind: api.InSyscall}
	spawn := func(p int) api.Instr { return api.Instr{Kind: api.InSpawn, Arg: p} }
	cases := []struct {
		words []uint64
		want  [][]api.Instr
	}{
		{nil, [][]api.Instr{nil}},
		{[]uint64{}, [][]api.Instr{nil}},
		{[]uint64{25, 0, 7, 18}, [][]api.Instr{{compute, exit}, {spawn(0)}}}, // the chapter's example
		{[]uint64{25}, [][]api.Instr{{compute}}},
		{[]uint64{7}, [][]api.Instr{nil, nil}},
		{[]uint64{7, 7, 7}, [][]api.Instr{nil, nil, nil, nil}},
		{[]uint64{7, 3}, [][]api.Instr{nil, {yield}}},
		{[]uint64{3, 7}, [][]api.Instr{{yield}, nil}},
		{[]uint64{3, 7, 7, 6}, [][]api.Instr{{yield}, nil, {sys}}},
		{[]uint64{7, 3, 6, 7, 7, 25, 7}, [][]api.Instr{nil, {yield, sys}, nil, {compute}, nil}},
		{[]uint64{3, 1<<48 - 1, 6}, [][]api.Instr{{yield}, {sys}}},
		{[]uint64{3, 15, 6, 1<<48 + 7, 3}, [][]api.Instr{{yield}, {sys, exit, yield}}},
		{[]uint64{1 << 48, math.MaxUint64}, [][]api.Instr{{exit, exit}}},
		{[]uint64{of(2, 4), 7, of(2, 5), of(2, 2), 7, of(2, 6)}, [][]api.Instr{{spawn(1)}, {spawn(2), spawn(2)}, {spawn(0)}}},
		{[]uint64{of(2, 9)}, [][]api.Instr{{spawn(0)}}},
	}
	for _, x := range cases {
		before := slices.Clone(x.words)
		c := code.Read(x.words)
		if c == nil {
			t.Fatalf("Read(%v): nothing", x.words)
		}
		check(t, c, x.want)
		if !slices.Equal(x.words, before) {
			t.Errorf("the words were changed: %v", x.words)
		}
	}
}

// Promise 6.1: of more than MaxCode words the first MaxCode are read, and they alone make programs.
func TestReadMany(t *testing.T) {
	for _, long := range []int{api.MaxCode - 1, api.MaxCode, api.MaxCode + 1, api.MaxCode + 9} {
		kept := min(long, api.MaxCode)
		words := make([]uint64, long)
		words[kept-1] = 3
		c := code.Read(words)
		if c.Len() != 1 || c.Long(0) != kept || len(c.All(0)) != kept || c.At(0, kept-1) != (api.Instr{Kind: api.InYield}) || c.At(0, kept) != exit {
			t.Errorf("%d words: %d programs, the first of %d", long, c.Len(), c.Long(0))
		}
		for i := range words {
			words[i] = parts
		}
		if c := code.Read(words); c.Len() != kept+1 || c.Long(0) != 0 || c.Long(kept) != 0 {
			t.Errorf("%d words that part: %d programs", long, c.Len())
		}
	}
	words := make([]uint64, api.MaxCode+3)
	words[0], words[api.MaxCode], words[api.MaxCode+1] = of(2, 5), parts, 3
	if c := code.Read(words); c.Len() != 1 || c.Long(0) != api.MaxCode || c.At(0, 0) != (api.Instr{Kind: api.InSpawn}) {
		t.Errorf("a word that parts, just beyond: %d programs", c.Len())
	}
	words[api.MaxCode-1] = parts
	if c := code.Read(words); c.Len() != 2 || c.Long(0) != api.MaxCode-1 || c.Long(1) != 0 || c.At(0, 0) != (api.Instr{Kind: api.InSpawn, Arg: 1}) {
		t.Errorf("a word that parts, just within: %d programs", c.Len())
	}
}

// R3: Read copies the words, and All answers new memory.
func TestApart(t *testing.T) {
	words := []uint64{25, 3, 7, 6, 4}
	want := [][]api.Instr{{{Kind: api.InCompute, Arg: 4}, {Kind: api.InYield}}, {{Kind: api.InSyscall}, {Kind: api.InPark}}}
	c := code.Read(words)
	clear(words)
	check(t, c, want)
	first, again := c.All(0), c.All(0)
	first[0] = api.Instr{Kind: api.InPark}
	first = append(first[:1], first[0], first[0])
	check(t, c, want)
	if !slices.Equal(again, want[0]) || first[0].Kind != api.InPark {
		t.Errorf("an answer was changed: %v", again)
	}
	other := code.Read([]uint64{0})
	check(t, other, [][]api.Instr{{exit}})
	check(t, c, want)
}

// Promise 6.3: which Args may be, just within and just beyond, and their words.
func TestWord(t *testing.T) {
	cases := []struct {
		kind, arg int
		want      uint64
		e         api.Errno
	}{
		{api.InExit, 0, 0, api.OK}, {api.InExit, 1, 0, api.ErrRange}, {api.InExit, -1, 0, api.ErrRange},
		{api.InCompute, 0, 0, api.ErrRange}, {api.InCompute, 1, 1, api.OK}, {api.InCompute, 2, 9, api.OK}, {api.InCompute, 16, 121, api.OK}, {api.InCompute, 17, 0, api.ErrRange}, {api.InCompute, -1, 0, api.ErrRange},
		{api.InSpawn, -1, 0, api.ErrRange}, {api.InSpawn, 0, 2, api.OK}, {api.InSpawn, 3, 26, api.OK}, {api.InSpawn, 4095, 32762, api.OK}, {api.InSpawn, 4096, 32770, api.OK}, {api.InSpawn, 4097, 0, api.ErrRange},
		{api.InYield, 0, 3, api.OK}, {api.InYield, 1, 0, api.ErrRange}, {api.InYield, -1, 0, api.ErrRange},
		{api.InPark, 0, 4, api.OK}, {api.InPark, 1, 0, api.ErrRange}, {api.InPark, -1, 0, api.ErrRange},
		{api.InReady, -1, 0, api.ErrRange}, {api.InReady, 0, 5, api.OK}, {api.InReady, 1, 13, api.OK}, {api.InReady, 65535, 524285, api.OK}, {api.InReady, 65536, 0, api.ErrRange},
		{api.InSyscall, 0, 6, api.OK}, {api.InSyscall, 1, 0, api.ErrRange}, {api.InSyscall, -1, 0, api.ErrRange},
	}
	for _, x := range cases {
		if w, e := code.Word(api.Instr{Kind: x.kind, Arg: x.arg}); w != x.want || e != x.e {
			t.Errorf("Word of kind %d, %d: %d, %v, want %d, %v", x.kind, x.arg, w, e, x.want, x.e)
		}
	}
}

// Promise 6.3, R1, R2: wrong instructions; a Kind that is none is told ahead of an Arg that is out of range.
func TestWordWrong(t *testing.T) {
	for _, kind := range []int{math.MinInt, -1 << 32, -1, 7, 8, 1 << 32, math.MaxInt} {
		for _, arg := range []int{math.MinInt, -1, 0, 1, 1 << 16, math.MaxInt} {
			if w, e := code.Word(api.Instr{Kind: kind, Arg: arg}); w != 0 || e != api.ErrArg {
				t.Errorf("Word of kind %d, %d: %d, %v", kind, arg, w, e)
			}
		}
	}
	for kind := api.InExit; kind <= api.InSyscall; kind++ {
		for _, arg := range []int{math.MinInt, math.MinInt + 1, -1 << 61, -1 << 32, -17, 1 << 17, 1 << 32, 1 << 61, math.MaxInt} {
			if w, e := code.Word(api.Instr{Kind: kind, Arg: arg}); w != 0 || e != api.ErrRange {
				t.Errorf("Word of kind %d, %d: %d, %v", kind, arg, w, e)
			}
		}
	}
}

// Promise 6.3: the word is the least one whose instruction it is, of more than MaxCode programs.
func TestLeastWord(t *testing.T) {
	for _, programs := range []int{api.MaxCode + 1, api.MaxCode + 2, 5000} {
		seen := map[api.Instr]int{}
		for w := range uint64(8 * (api.MaxGs + 3)) {
			x, is := code.Instr(w, programs)
			if seen[x]++; !is || seen[x] > 1 {
				continue
			}
			got, e := code.Word(x)
			if x.Kind == api.InSpawn && x.Arg > api.MaxCode {
				if e != api.ErrRange {
					t.Fatalf("Word(%v): %d, %v", x, got, e)
				}
			} else if got != w || e != api.OK {
				t.Fatalf("Word(%v): %d, %v, want %d", x, got, e, w)
			}
		}
	}
}

// someWords are words of all codes, with bits in low and in high places, and few that part.
func someWords(seed uint64, many int) []uint64 {
	var words []uint64
	for range many {
		seed = seed*6364136223846793005 + 1442695040888963407
		words = append(words, seed>>(seed%64))
	}
	return words
}

// Promises 6.1 and 6.2: what is read are the words' instructions, parted one by one.
func TestReadSome(t *testing.T) {
	for seed := range uint64(40) {
		words := someWords(seed, int(seed)*9)
		programs := 1
		for _, w := range words {
			if w < 1<<48 && w%8 == 7 {
				programs++
			}
		}
		want := [][]api.Instr{nil}
		for _, w := range words {
			if x, is := code.Instr(w, programs); is {
				want[len(want)-1] = append(want[len(want)-1], x)
			} else {
				want = append(want, nil)
			}
		}
		check(t, code.Read(words), want)
	}
}

// Promise 6.4: what a program spawns is a program.
func TestSpawnsAreThere(t *testing.T) {
	spawns := 0
	for seed := range uint64(60) {
		c := code.Read(someWords(seed, api.MaxCode))
		for p := range c.Len() {
			for _, x := range c.All(p) {
				if x.Kind != api.InSpawn {
					continue
				}
				spawns++
				if x.Arg < 0 || x.Arg >= c.Len() {
					t.Fatalf("of %d programs %d is spawned", c.Len(), x.Arg)
				}
			}
		}
	}
	if spawns == 0 {
		t.Errorf("nothing is spawned")
	}
}

// Promise 6.4: what is written is read as it was.
func TestWrittenIsRead(t *testing.T) {
	for kind := api.InExit; kind <= api.InSyscall; kind++ {
		for arg := range api.MaxGs + 2 {
			x := api.Instr{Kind: kind, Arg: arg}
			w, e := code.Word(x)
			if e != api.OK {
				continue
			}
			if got, is := code.Instr(w, api.MaxCode+1); got != x || !is {
				t.Fatalf("%v is written %d, and read %v, %v", x, w, got, is)
			}
		}
	}
	for seed := range uint64(20) {
		for _, w := range someWords(seed, 500) {
			x, is := code.Instr(w, 100)
			if !is {
				continue
			}
			got, e := code.Word(x)
			if again, _ := code.Instr(got, 100); e != api.OK || again != x || got > w {
				t.Fatalf("%d is read %v, and written %d, %v", w, x, got, e)
			}
		}
	}
}

// The promises of no code, and of one that Read did not make: nothing, and InExit.
func TestNoCode(t *testing.T) {
	var none *code.Code
	check(t, none, nil)
	check(t, &code.Code{}, nil)
}
