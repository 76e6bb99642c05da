package script_test

import (
	"math"
	"slices"
	"strings"
	"testing"

	"turnspit/api"
	"turnspit/code"
	"turnspit/plays"
	"turnspit/script"
)

// Promise 33.2: each instruction that has a word has a line.
func TestInstr(t *testing.T) {
	for want, x := range map[string]api.Instr{
		"exit": {}, "compute 1": {Kind: api.InCompute, Arg: 1}, "compute 16": {Kind: api.InCompute, Arg: 16}, "spawn 0": {Kind: api.InSpawn}, "spawn 4096": {Kind: api.InSpawn, Arg: 4096},
		"yield": {Kind: api.InYield}, "park": {Kind: api.InPark}, "ready 0": {Kind: api.InReady}, "ready 65535": {Kind: api.InReady, Arg: 65535}, "syscall": {Kind: api.InSyscall},
	} {
		if got, is := script.Instr(x); got != want || !is {
			t.Errorf("Instr of %v: %q, %v, want %q", x, got, is, want)
		}
	}
	for _, x := range []api.Instr{
		{Kind: -1}, {Kind: 7}, {Kind: math.MinInt}, {Kind: math.MaxInt, Arg: 1}, {Kind: api.InExit, Arg: 1}, {Kind: api.InYield, Arg: 1}, {Kind: api.InPark, Arg: -1}, {Kind: api.InSyscall, Arg: 2},
		{Kind: api.InCompute}, {Kind: api.InCompute, Arg: 17}, {Kind: api.InCompute, Arg: -1}, {Kind: api.InSpawn, Arg: 4097}, {Kind: api.InSpawn, Arg: -1}, {Kind: api.InReady, Arg: 65536}, {Kind: api.InReady, Arg: math.MinInt}, {Kind: api.InCompute, Arg: math.MaxInt},
	} {
		if got, is := script.Instr(x); got != "" || is {
			t.Errorf("Instr of %v: %q, %v", x, got, is)
		}
	}
}

// reads holds that a text is that of some words.
func reads(t *testing.T, text string, words ...uint64) {
	t.Helper()
	if got, e := script.Words(text); e != api.OK || !slices.Equal(got, words) {
		t.Errorf("Words of %.200q: %d, %v, want %d", text, got, e, words)
	}
}

// programs holds programs and their text against each other, both ways.
func programs(t *testing.T, text string, words ...uint64) {
	t.Helper()
	if got := script.Programs(code.Read(words)); got != text {
		t.Errorf("Programs of %d: %.200q, want %.200q", words, got, text)
	}
	reads(t, text, words...)
}

// Promise 33.2: the lines of each program, and next between each two; a text without any line is that of one program without instructions.
func TestPrograms(t *testing.T) {
	programs(t, "")
	programs(t, "next\n", 7)
	programs(t, "next\nnext\n", 7, 7)
	programs(t, "exit\n", 0)
	programs(t, "compute 4\nexit\nnext\nspawn 0\n", 25, 0, 7, 2)
	programs(t, "compute 1\ncompute 16\nspawn 1\nyield\npark\nnext\nready 0\nready 65535\nsyscall\nexit\nnext\n", 1, 121, 10, 3, 4, 7, 5, 8*65535+5, 6, 0, 7)
	if got := script.Programs(nil); got != "" {
		t.Errorf("Programs of no code: %q", got)
	}
	if got := script.Programs(&code.Code{}); got != "" {
		t.Errorf("Programs of a code that nobody made: %q", got)
	}
}

// Promise 33.2: words that are not the least ones are written as the instructions that they are.
func TestProgramsOfAnyWords(t *testing.T) {
	for want, words := range map[string][]uint64{
		"exit\nexit\nexit\n":                {8, 1 << 48, math.MaxUint64},
		"compute 1\nyield\n":                {1 + 8*16, 3 + 8*99},
		"spawn 1\nnext\nspawn 0\nready 1\n": {2 + 8*3, 7 + 8, 2 + 8*6, 5 + 8*65537},
	} {
		if got := script.Programs(code.Read(words)); got != want {
			t.Errorf("Programs of %d: %q, want %q", words, got, want)
		}
	}
}

// same tells whether programs are the same.
func same(a, b *code.Code) bool {
	if a.Len() != b.Len() {
		return false
	}
	for p := range a.Len() {
		if !slices.Equal(a.All(p), b.All(p)) {
			return false
		}
	}
	return true
}

// Promise 33.3: programs that are written are read as they were; and their text is the same again.
func TestProgramsMadeUp(t *testing.T) {
	for seed := range uint64(500) {
		r := plays.New(seed + 100)
		words := r.Words()
		for range r.Below(40) {
			words = append(words, uint64(r.Below(1<<20)))
		}
		if seed%7 == 0 {
			words = append(words, 1<<48, 7, 7, 1<<60+7)
		}
		c := code.Read(words)
		text := script.Programs(c)
		back, e := script.Words(text)
		if e != api.OK || !same(code.Read(back), c) || len(back) != len(words) {
			t.Fatalf("seed %d: %v: %q", seed, e, text)
		}
		if script.Programs(code.Read(back)) != text {
			t.Fatalf("seed %d: another text of %q", seed, text)
		}
	}
}

// Promise 33.3: what spawns a program that there is not has its line all the same; of what is read it spawns another one.
func TestSpawnOfNone(t *testing.T) {
	reads(t, "spawn 4096\n", 8*4096+2)
	reads(t, "spawn 5\nnext\n", 42, 7)
	words, _ := script.Words("spawn 5\nnext\n")
	if got := script.Programs(code.Read(words)); got != "spawn 1\nnext\n" {
		t.Errorf("Programs: %q", got)
	}
}

// wrongWords holds that texts are none of programs.
func wrongWords(t *testing.T, texts ...string) {
	t.Helper()
	for _, text := range texts {
		if words, e := script.Words(text); e != api.ErrForm || words != nil {
			t.Errorf("Words of %.200q: %d, %v", text, words, e)
		}
	}
}

// Promise 33.2: what is no text of programs.
func TestWordsWrong(t *testing.T) {
	wrongWords(t, "\n", " ", "exit", "exit\n\n", "\nexit\n", " exit\n", "exit \n", "Exit\n", "exit 0\n", "exit\r\n", "ex\n", "exits\n", "none\n", "jump\n", "step 1\n", "mon\n", "\xff\n", "exit\x00\n",
		"yield 0\n", "yield 1\n", "park 0\n", "syscall 0\n", "next 0\n", "next 1\n", "next \n", "next", "exit\nnext",
		"compute\n", "compute \n", "compute 0\n", "compute 17\n", "compute -1\n", "compute +1\n", "compute 01\n", "compute 1 \n", "compute  1\n", "compute 1 1\n", "compute x\n", "compute 1 x 2\n", "compute 18446744073709551617\n", "compute 4",
		"spawn\n", "spawn 4097\n", "spawn 00\n", "spawn -0\n", "spawn -1\n", "spawn 4294967296\n", "spawn 18446744073709551616\n", "ready\n", "ready 65536\n", "ready 065\n", "ready a\n", "ready 9223372036854775808\n")
}

// Promise 33.2: at most MaxCode lines, and at most MaxBytes bytes.
func TestWordsLong(t *testing.T) {
	reads(t, strings.Repeat("next\n", api.MaxCode), slices.Repeat([]uint64{7}, api.MaxCode)...)
	reads(t, strings.Repeat("ready 65535\n", api.MaxCode), slices.Repeat([]uint64{8*65535 + 5}, api.MaxCode)...)
	programs(t, "spawn 4095\n"+strings.Repeat("next\n", api.MaxCode-1), append([]uint64{8*4095 + 2}, slices.Repeat([]uint64{7}, api.MaxCode-1)...)...)
	wrongWords(t, strings.Repeat("next\n", api.MaxCode+1), strings.Repeat("exit\n", api.MaxCode)+"x", strings.Repeat("yield\n", script.MaxBytes/6), strings.Repeat("x", script.MaxBytes))
	for _, text := range []string{strings.Repeat("x", script.MaxBytes+1), strings.Repeat("yield\n", script.MaxBytes)} {
		if words, e := script.Words(text); e != api.ErrLong || words != nil {
			t.Errorf("Words of too much: %d, %v", len(words), e)
		}
	}
}

// Promise 33.3: a text that a slip has changed is none, or each line is that of its word.
func TestWordsSlips(t *testing.T) {
	text := "compute 10\nspawn 1\nyield\nnext\nready 12\npark\nexit\nsyscall\n"
	for at := 0; at <= len(text); at++ {
		for _, c := range []byte("0123456789 \n-+xpny") {
			slips := []string{text[:at] + string(c) + text[at:]}
			if at < len(text) {
				slips = append(slips, text[:at]+text[at+1:], text[:at]+string(c)+text[at+1:])
			}
			for _, slip := range slips {
				words, e := script.Words(slip)
				if e == api.ErrForm && words == nil {
					continue
				}
				var back strings.Builder
				for _, w := range words {
					line := "next"
					if x, is := code.Instr(w, api.MaxCode+1); is {
						line, _ = script.Instr(x)
					}
					back.WriteString(line + "\n")
				}
				if e != api.OK || back.String() != slip {
					t.Errorf("Words of %q: %v, %q", slip, e, back.String())
				}
			}
		}
	}
}
