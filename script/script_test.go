package script_test

import (
	"math"
	"slices"
	"strings"
	"testing"

	"turnspit/api"
	"turnspit/plays"
	"turnspit/script"
	"turnspit/word"
)

// step, back, watch and ticks are the entries of each kind.
func step(t int) api.Entry { return api.Entry{Kind: api.EnStep, Who: t} }
func back(t int) api.Entry { return api.Entry{Kind: api.EnReturn, Who: t} }
func watch() api.Entry     { return api.Entry{Kind: api.EnMon} }
func ticks() api.Entry     { return api.Entry{Kind: api.EnTick} }

// both holds a script and its text against each other, both ways.
func both(t *testing.T, l []api.Entry, text string) {
	t.Helper()
	if got, e := script.Write(l); e != api.OK || got != text {
		t.Errorf("Write of %d entries: %.200q, %v, want %.200q", len(l), got, e, text)
	}
	if got, e := script.Read(text); e != api.OK || !slices.Equal(got, l) {
		t.Errorf("Read of %.200q: %d entries, %v, want %d", text, len(got), e, len(l))
	}
}

// many is so many of an entry.
func many(n int, e api.Entry) []api.Entry {
	return slices.Repeat([]api.Entry{e}, n)
}

// Promise 33.1: a line for each run, as long as it can be.
func TestScript(t *testing.T) {
	both(t, nil, "")
	both(t, []api.Entry{step(1), step(1), ticks()}, "step 1 x 2\ntick\n")
	both(t, []api.Entry{step(0), step(255), back(0), back(255), watch(), ticks()}, "step 0\nstep 255\nreturn 0\nreturn 255\nmon\ntick\n")
	both(t, []api.Entry{step(3), back(3), step(3), step(30), step(3), step(3)}, "step 3\nreturn 3\nstep 3\nstep 30\nstep 3 x 2\n")
	both(t, slices.Concat(many(9, watch()), many(10, ticks()), many(11, watch()), many(100, back(100)), many(1, step(0))), "mon x 9\ntick x 10\nmon x 11\nreturn 100 x 100\nstep 0\n")
	if text, e := script.Write([]api.Entry{}); text != "" || e != api.OK {
		t.Errorf("Write of none: %q, %v", text, e)
	}
}

// Promise 33.3: what is written is read as it was, whatever it is.
func TestScriptsMadeUp(t *testing.T) {
	for seed := range uint64(300) {
		r := plays.New(seed)
		var l []api.Entry
		for range r.Below(200) {
			e := []api.Entry{step(r.Below(3)), back(r.Below(3)), watch(), ticks(), step(r.Below(256)), back(r.Below(256))}[r.Below(6)]
			l = append(l, many(1+r.Below(4)*r.Below(8), e)...)
		}
		text, e := script.Write(l)
		back, f := script.Read(text)
		if e != api.OK || f != api.OK || !slices.Equal(back, l) {
			t.Fatalf("seed %d: %v, %v: %q", seed, e, f, text)
		}
		if again, _ := script.Write(back); again != text {
			t.Fatalf("seed %d: %q, and %q", seed, text, again)
		}
	}
}

// Promise 33.1: an entry that is not right, of 256 threads, is not written.
func TestWriteWrong(t *testing.T) {
	for _, e := range []api.Entry{{}, step(256), step(-1), back(256), back(-1), {Kind: api.EnMon, Who: 1}, {Kind: api.EnTick, Who: -1}, {Kind: 5}, {Kind: -1}, {Kind: math.MinInt, Who: math.MinInt}, {Kind: math.MaxInt, Who: math.MaxInt}, step(math.MaxInt), back(math.MinInt)} {
		for _, l := range [][]api.Entry{{e}, {e, e}, {step(1), e}, {e, step(1)}, {step(1), e, step(1)}} {
			if text, f := script.Write(l); text != "" || f != api.ErrArg {
				t.Errorf("Write of %v: %q, %v", l, text, f)
			}
		}
	}
}

// Promise 33.1: at most MaxEntries entries are written, and read; that there are too many is told ahead of that they are wrong.
func TestMaxEntries(t *testing.T) {
	if script.MaxEntries != 65536 || script.MaxBytes != 1048576 {
		t.Errorf("limits: %d, %d", script.MaxEntries, script.MaxBytes)
	}
	both(t, many(script.MaxEntries, ticks()), "tick x 65536\n")
	both(t, append(many(script.MaxEntries-1, ticks()), watch()), "tick x 65535\nmon\n")
	var l []api.Entry
	for len(l) < script.MaxEntries {
		l = append(l, back(200), back(201)) // no text is longer
	}
	both(t, l, strings.Repeat("return 200\nreturn 201\n", script.MaxEntries/2))
	for _, l := range [][]api.Entry{many(script.MaxEntries+1, ticks()), many(script.MaxEntries+1, api.Entry{}), append(l, step(0))} {
		if text, e := script.Write(l); text != "" || e != api.ErrLong {
			t.Errorf("Write of too many: %d bytes, %v", len(text), e)
		}
	}
	wrong(t, "tick x 65537\n", "tick x 65536\nmon\n", "mon\ntick x 65536\n", "mon x 65530\nstep 0 x 7\n", strings.Repeat("mon\ntick\n", script.MaxEntries/2)+"mon\n",
		"mon\ntick x 9223372036854775807\n", "mon\ntick x 9223372036854775808\n", "mon\ntick x 18446744073709551617\n", "tick x 4294967298\n")
}

// wrong holds that texts are none of a script.
func wrong(t *testing.T, texts ...string) {
	t.Helper()
	for _, text := range texts {
		if l, e := script.Read(text); e != api.ErrForm || l != nil {
			t.Errorf("Read of %.200q: %d entries, %v", text, len(l), e)
		}
	}
}

// Promise 33.1: what is no text of a script.
func TestReadWrong(t *testing.T) {
	wrong(t, "mon", "\n", " ", "mon\n\n", "\nmon\n", "mon\r\n", "mon \n", " mon\n", "Mon\n", "MON\n", "mo\n", "monx 2\n", "mont\n", "mon\x00\n", "\xff\n", "mon;tick\n",
		"mon 1\n", "mon 0\n", "tick 0\n", "mon x\n", "mon x \n", "mon x 1\n", "mon x 0\n", "mon x -2\n", "mon x +2\n", "mon x 02\n", "mon x 2 \n", "mon x  2\n", "mon  x 2\n", "mon X 2\n", "mon x 2 x 2\n", "mon x 2 x\n", "mon x two\n", "mon x 2.0\n", "mon x 0x2\n", "mon x 1_0\n", "mon x ２\n", "x 2\n", " x 2\n",
		"step\n", "step \n", "step x 2\n", "step  x 2\n", "step 256\n", "step -1\n", "step +1\n", "step -0\n", "step 01\n", "step 00\n", "step 1 \n", "step  1\n", "step 1 2\n", "step 1 x 1\n", "step 1x 2\n", "step 1 x2\n", "step\t1\n", "step1\n", "step a\n", "step 18446744073709551616\n", "step 18446744073709551617\n", "step 4294967296\n",
		"return\n", "return 256\n", "return -1\n", "return 00\n", "exit\n", "next\n", "-\n", "start g0 t0 p0\n", "1\n",
		"mon\nmon\n", "mon\nmon x 2\n", "mon x 2\nmon\n", "mon x 2\nmon x 2\n", "step 1 x 2\nstep 1\n", "tick\nreturn 7\nreturn 7\n", "mon\ntick", "mon\n tick\n", "tick\nmon\nmon\ntick\n")
}

// Promise 33.1: a text of more than MaxBytes bytes is not read at all, one of just as many is.
func TestReadLong(t *testing.T) {
	for _, filler := range []string{"x", "mon\ntick\n", "\n"} {
		text := strings.Repeat(filler, script.MaxBytes+1)
		if l, e := script.Read(text[:script.MaxBytes+1]); l != nil || e != api.ErrLong {
			t.Errorf("Read of too much: %v", e)
		}
		if l, e := script.Read(text[:script.MaxBytes]); l != nil || e != api.ErrForm {
			t.Errorf("Read of much: %v", e)
		}
	}
}

// Promise 33.3: a text that a slip has changed is none, or just that of what is read.
func TestReadSlips(t *testing.T) {
	const letters = "0123456789 \nxstepmontickreturn-+\x00"
	text := "step 10 x 12\nmon\nreturn 7\ntick x 3\nstep 0\nmon x 20\nreturn 255 x 2\n"
	read := 0
	for at := 0; at <= len(text); at++ {
		for _, c := range []byte(letters) {
			slips := []string{text[:at] + string(c) + text[at:]}
			if at < len(text) {
				slips = append(slips, text[:at]+text[at+1:], text[:at]+string(c)+text[at+1:])
			}
			for _, slip := range slips {
				l, e := script.Read(slip)
				if e == api.ErrForm && l == nil {
					continue
				}
				read++
				if back, f := script.Write(l); e != api.OK || f != api.OK || back != slip {
					t.Errorf("Read of %q: %v, %v", slip, e, l)
				}
				for _, x := range l {
					if !word.Right(x, 256) {
						t.Errorf("Read of %q: %v", slip, x)
					}
				}
			}
		}
	}
	if read < 100 {
		t.Errorf("few slips are read: %d", read)
	}
}

// What is handed in is not changed, and an answer is new each time.
func TestArguments(t *testing.T) {
	l := []api.Entry{step(1), step(1), watch()}
	script.Write(l)
	if !slices.Equal(l, []api.Entry{step(1), step(1), watch()}) {
		t.Errorf("changed: %v", l)
	}
	a, _ := script.Read("step 1 x 2\nmon\n")
	a[0] = ticks()
	if b, _ := script.Read("step 1 x 2\nmon\n"); !slices.Equal(b, l) {
		t.Errorf("changed: %v", b)
	}
}
