package dice_test

import (
	"math"
	"slices"
	"testing"

	"turnspit/api"
	"turnspit/code"
	"turnspit/dice"
	"turnspit/layout"
	"turnspit/word"
)

// Promise 38.1: the next numbers of some states.
func TestNext(t *testing.T) {
	for state, want := range map[uint64][]uint64{
		0:                  {0xE220A8397B1DCDAF, 0x6E789E6AA1B965F4, 0x06C45D188009454F, 0xF88BB8A8724C81EC, 0x1B39896A51A8749B},
		1234567:            {6457827717110365317, 3203168211198807973, 9817491932198370423, 4593380528125082431, 16408922859458223821},
		0x61C8864680B583EB: {0, 0xE220A8397B1DCDAF},
	} {
		d := dice.New(state)
		for i, n := range want {
			if got := d.Next(); got != n {
				t.Errorf("of the state %d number %d: %#x, want %#x", state, i, got, n)
			}
		}
	}
	d := dice.New(math.MaxUint64)
	first, again := d.Next(), dice.New(math.MaxUint64).Next()
	if first != again || first == d.Next() {
		t.Errorf("of the greatest state: %#x, %#x", first, again)
	}
}

// Of no dice 0, ErrArg, nothing.
func TestNoDice(t *testing.T) {
	var d *dice.Dice
	c := api.Config{Procs: 1, Threads: 2, Gs: 3}
	if d.Next() != 0 || d.Below(5) != 0 || d.Below(-1) != 0 || d.Programs(3) != nil || d.Script(c, 9) != nil || d.Draws(9) != nil {
		t.Errorf("of none: %d", d.Next())
	}
	for _, most := range []api.Config{c, {}} {
		if got, e := d.Config(most); got != (api.Config{}) || e != api.ErrArg {
			t.Errorf("Config: %v, %v", got, e)
		}
	}
	if (&dice.Dice{}).Next() != dice.New(0).Next() {
		t.Errorf("dice that nobody made have another state than 0")
	}
}

// Promise 38.1: what the next number leaves; below 1 no number is taken.
func TestBelow(t *testing.T) {
	for _, n := range []int{1, 2, 3, 7, 256, 1 << 40, math.MaxInt} {
		d, e := dice.New(77), dice.New(77)
		for range 20 {
			if got, want := d.Below(n), int(e.Next()%uint64(n)); got != want {
				t.Errorf("Below(%d): %d, want %d", n, got, want)
			}
		}
		if d.Next() != e.Next() {
			t.Errorf("Below(%d): other numbers were taken", n)
		}
	}
	d := dice.New(5)
	for _, n := range []int{0, -1, math.MinInt} {
		if got := d.Below(n); got != 0 {
			t.Errorf("Below(%d): %d", n, got)
		}
	}
	if d.Next() != dice.New(5).Next() {
		t.Errorf("a number was taken")
	}
}

// Promise 38.1: draws are the next numbers, at most 2^12.
func TestDraws(t *testing.T) {
	for n, want := range map[int]int{math.MinInt: 0, -1: 0, 0: 0, 1: 1, 5: 5, 4095: 4095, 4096: 4096, 4097: 4096, math.MaxInt: 4096} {
		d, e := dice.New(9), dice.New(9)
		l := d.Draws(n)
		if len(l) != want {
			t.Errorf("Draws(%d): %d", n, len(l))
		}
		for i := range l {
			if l[i] != e.Next() {
				t.Fatalf("Draws(%d): %#x is another number", n, l[i])
			}
		}
		if d.Next() != e.Next() {
			t.Errorf("Draws(%d): other numbers were taken", n)
		}
	}
}

// Promise 38.2: a config, number by number.
func TestConfig(t *testing.T) {
	for _, most := range []api.Config{{Procs: 1, Threads: 1, Gs: 1}, {Procs: 4, Threads: 7, Gs: 30}, {Procs: 3, Threads: 3, Gs: 2}, {Procs: 64, Threads: 256, Gs: 65536}} {
		seen := map[api.Config]int{}
		for state := range uint64(500) {
			d, e := dice.New(state), dice.New(state)
			got, f := d.Config(most)
			var want api.Config
			want.Procs = 1 + e.Below(most.Procs)
			want.Threads = want.Procs + e.Below(most.Threads-want.Procs+1)
			want.Gs = 1 + e.Below(most.Gs)
			if got != want || f != api.OK || !layout.Right(got) || got.Threads > most.Threads || d.Next() != e.Next() {
				t.Fatalf("of %d, at most %v: %v, %v, want %v", state, most, got, f, want)
			}
			seen[got]++
		}
		all := most.Gs * (most.Procs*(most.Threads+1) - most.Procs*(most.Procs+1)/2)
		if len(seen) < min(all/2, 300) {
			t.Errorf("at most %v: %d configs of %d", most, len(seen), all)
		}
	}
}

// Promise 38.2: what may not be has no config, and no number is taken.
func TestConfigWrong(t *testing.T) {
	d := dice.New(3)
	for _, most := range []api.Config{
		{}, {Procs: 2, Threads: 1, Gs: 1}, {Procs: 0, Threads: 1, Gs: 1}, {Procs: 1, Threads: 1, Gs: 0}, {Procs: 65, Threads: 65, Gs: 1}, {Procs: 1, Threads: 257, Gs: 1}, {Procs: 1, Threads: 1, Gs: 65537}, {Procs: math.MinInt, Threads: math.MaxInt, Gs: math.MinInt},
	} {
		if c, e := d.Config(most); c != (api.Config{}) || e != api.ErrArg {
			t.Errorf("Config of %v: %v, %v", most, c, e)
		}
	}
	if d.Next() != dice.New(3).Next() {
		t.Errorf("a number was taken")
	}
}

// instrs are so many programs as the chapter says, number by number.
func instrs(d *dice.Dice, n int) [][]api.Instr {
	all := make([][]api.Instr, n)
	for p := range all {
		for range 1 + d.Below(8) {
			var x api.Instr
			switch d.Below(8) {
			case 0:
				x = api.Instr{Kind: api.InSpawn, Arg: d.Below(n)}
			case 1:
				x.Kind = api.InYield
			case 2:
				x.Kind = api.InPark
			case 3:
				x = api.Instr{Kind: api.InReady, Arg: d.Below(8)}
			case 4:
				x.Kind = api.InSyscall
			default:
				x = api.Instr{Kind: api.InCompute, Arg: 1 + d.Below(16)}
			}
			all[p] = append(all[p], x)
		}
	}
	return all
}

// Promise 38.2: programs, number by number; their words are the least ones.
func TestPrograms(t *testing.T) {
	seen := map[api.Instr]int{}
	for n, many := range map[int]int{math.MinInt: 1, -1: 1, 0: 1, 1: 1, 2: 2, 3: 3, 15: 15, 16: 16, 17: 16, math.MaxInt: 16} {
		for state := range uint64(60) {
			d, e := dice.New(state), dice.New(state)
			words := d.Programs(n)
			var want []uint64
			for p, program := range instrs(e, many) {
				if p > 0 {
					want = append(want, 7)
				}
				for _, x := range program {
					w, _ := code.Word(x)
					want = append(want, w)
					seen[x]++
				}
			}
			if !slices.Equal(words, want) || code.Read(words).Len() != many || d.Next() != e.Next() {
				t.Fatalf("of %d, %d programs: %d, want %d", state, n, words, want)
			}
		}
	}
	if len(seen) != 16+3+8+16 {
		t.Errorf("%d unlike instructions", len(seen))
	}
}

// entries are entries of a script as the chapter says, number by number.
func entries(d *dice.Dice, threads, n int) []api.Entry {
	var l []api.Entry
	for len(l) < n {
		e, many := api.Entry{Kind: api.EnStep}, 1
		switch d.Below(8) {
		case 0:
			e.Kind = api.EnMon
		case 1:
			e.Kind = api.EnTick
		case 2:
			e = api.Entry{Kind: api.EnReturn, Who: d.Below(threads)}
		default:
			e.Who = d.Below(threads)
		}
		if e.Kind != api.EnReturn {
			many += d.Below(16)
		}
		for ; many > 0 && len(l) < n; many-- {
			l = append(l, e)
		}
	}
	return l
}

// Promise 38.2: a script, run by run, number by number.
func TestScript(t *testing.T) {
	seen := map[api.Entry]int{}
	for _, threads := range []int{1, 2, 7, 255, 256} {
		for n, many := range map[int]int{math.MinInt: 0, -1: 0, 0: 0, 1: 1, 2: 2, 17: 17, 1000: 1000} {
			for state := range uint64(30) {
				d, e := dice.New(state), dice.New(state)
				c := api.Config{Procs: -4, Threads: threads, Gs: int(state)} // these are all one
				got, want := d.Script(c, n), entries(e, threads, many)
				if !slices.Equal(got, want) || d.Next() != e.Next() {
					t.Fatalf("of %d, %d threads, %d: %v, want %v", state, threads, n, got, want)
				}
				for _, x := range got {
					if !word.Right(x, threads) {
						t.Fatalf("of %d threads: %v", threads, x)
					}
					seen[x]++
				}
			}
		}
	}
	if len(seen) < 256+2+200 {
		t.Errorf("%d unlike entries", len(seen))
	}
}

// Promise 38.2: at most 2^16 entries.
func TestScriptLong(t *testing.T) {
	for n, many := range map[int]int{65535: 65535, 65536: 65536, 65537: 65536, math.MaxInt: 65536} {
		d, e := dice.New(1), dice.New(1)
		if l := d.Script(api.Config{Threads: 9}, n); len(l) != many || !slices.Equal(l, entries(e, 9, many)) || d.Next() != e.Next() {
			t.Errorf("%d entries: %d", n, len(l))
		}
	}
}

// Promise 38.2: where Threads may not be, there is no script, and no number is taken.
func TestScriptOfNone(t *testing.T) {
	d := dice.New(2)
	for _, threads := range []int{math.MinInt, -1, 0, 257, math.MaxInt} {
		if l := d.Script(api.Config{Procs: 1, Threads: threads, Gs: 1}, 50); l != nil {
			t.Errorf("of %d threads: %v", threads, l)
		}
	}
	if d.Next() != dice.New(2).Next() {
		t.Errorf("a number was taken")
	}
}

// Promise 38.3: dice of one state make the same up, one behind the other; what becomes of an answer changes nothing.
func TestSame(t *testing.T) {
	most := api.Config{Procs: 4, Threads: 9, Gs: 50}
	a, b := dice.New(2026), dice.New(2026)
	for range 20 {
		c, _ := a.Config(most)
		d, _ := b.Config(most)
		words, script, draws := a.Programs(3), a.Script(c, 90), a.Draws(7)
		if c != d || !slices.Equal(words, b.Programs(3)) || !slices.Equal(script, b.Script(d, 90)) || !slices.Equal(draws, b.Draws(7)) {
			t.Errorf("they part")
		}
		clear(words)
		clear(script)
		clear(draws)
	}
}
