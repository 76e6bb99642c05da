package report_test

import (
	"math"
	"slices"
	"strings"
	"testing"

	"turnspit/api"
	"turnspit/plays"
	"turnspit/report"
	"turnspit/world"
)

// words are all words, by their Kinds.
func words() []string {
	return []string{"", "start", "spawn", "refused", "yield", "preempt", "park", "ready", "enter", "return", "queue", "exit"}
}

// none is an event of a goroutine alone, without a processor.
func none(kind int) api.Event {
	return api.Event{Kind: kind, Other: api.None, Proc: api.None}
}

// told holds an event and its line against each other, both ways.
func told(t *testing.T, e api.Event, line string) {
	t.Helper()
	if got, is := report.Line(e); got != line+"\n" || !is || !report.Right(e) {
		t.Errorf("Line of %v: %q, %v, want %q", e, got, is, line)
	}
	if l, f := report.Read(line + "\n"); f != api.OK || !slices.Equal(l, []api.Event{e}) {
		t.Errorf("Read of %q: %v, %v, want %v", line, l, f, e)
	}
}

// Promise 34.1: each Kind has its word; Other and Proc stand there, unless they are None.
func TestLine(t *testing.T) {
	for kind, word := range words()[1:] {
		kind++
		told(t, none(kind), word+" g0 t0")
		told(t, api.Event{Kind: kind}, word+" g0 g0 t0 p0")
		told(t, api.Event{Kind: kind, G: 65535, Other: 65535, Thread: 255, Proc: 63}, word+" g65535 g65535 t255 p63")
		told(t, api.Event{Kind: kind, G: 9, Other: api.None, Thread: 10, Proc: 11}, word+" g9 t10 p11")
		told(t, api.Event{Kind: kind, G: 100, Other: 7, Thread: 99, Proc: api.None}, word+" g100 g7 t99")
	}
	told(t, api.Event{Kind: api.EvSpawn, G: 0, Other: 3, Thread: 1, Proc: 0}, "spawn g0 g3 t1 p0") // the chapter's example
}

// Promise 34.1: what may not be told: a Kind that is none, or numbers beyond their limits.
func TestNotTold(t *testing.T) {
	var wrong []api.Event
	for _, kind := range []int{math.MinInt, -1, 0, 12, 13, 1 << 32, math.MaxInt} {
		wrong = append(wrong, none(kind), api.Event{Kind: kind})
	}
	for kind := api.EvStart; kind <= api.EvExit; kind++ {
		for _, n := range []int{math.MinInt, -2, api.None, api.MaxGs, 1 << 32, math.MaxInt} {
			wrong = append(wrong, api.Event{Kind: kind, G: n, Other: api.None})
			if n != api.None {
				wrong = append(wrong, api.Event{Kind: kind, Other: n}, api.Event{Kind: kind, Other: n, G: 5, Thread: 2, Proc: api.None})
			}
		}
		for _, n := range []int{math.MinInt, -2, api.None, api.MaxThreads, 1 << 32, math.MaxInt} {
			wrong = append(wrong, api.Event{Kind: kind, Other: api.None, Thread: n})
		}
		for _, n := range []int{math.MinInt, -2, api.MaxProcs, 1 << 32, math.MaxInt} {
			wrong = append(wrong, api.Event{Kind: kind, Other: api.None, Proc: n})
		}
	}
	for _, e := range wrong {
		if line, is := report.Line(e); line != "" || is || report.Right(e) {
			t.Errorf("%v: %q, %v", e, line, is)
		}
		for _, l := range [][]api.Event{{e}, {none(1), e}, {e, none(1)}} {
			if text, f := report.Write(l); text != "" || f != api.ErrArg {
				t.Errorf("Write of %v: %q, %v", l, text, f)
			}
		}
	}
}

// Promise 34.1: all lines, in order; of no events there are none.
func TestWrite(t *testing.T) {
	l := []api.Event{{Kind: api.EvStart, Other: api.None}, {Kind: api.EvSpawn, Other: 1}, {Kind: api.EvQueue, G: 1, Other: api.None, Thread: 3, Proc: api.None}}
	text := "start g0 t0 p0\nspawn g0 g1 t0 p0\nqueue g1 t3\n"
	if got, e := report.Write(l); got != text || e != api.OK {
		t.Errorf("Write: %q, %v", got, e)
	}
	if got, e := report.Read(text); !slices.Equal(got, l) || e != api.OK {
		t.Errorf("Read: %v, %v", got, e)
	}
	for _, l := range [][]api.Event{nil, {}} {
		if got, e := report.Write(l); got != "" || e != api.OK {
			t.Errorf("Write of none: %q, %v", got, e)
		}
	}
	if got, e := report.Read(""); got != nil || e != api.OK {
		t.Errorf("Read of none: %v, %v", got, e)
	}
}

// Promise 34.1: at most MaxEvents events are written, and read; that there are too many is told ahead of that they may not be told.
func TestMaxEvents(t *testing.T) {
	if report.MaxEvents != 65536 || report.MaxBytes != 4194304 {
		t.Errorf("limits: %d, %d", report.MaxEvents, report.MaxBytes)
	}
	longest := api.Event{Kind: api.EvPreempt, G: 65535, Other: 65535, Thread: 255, Proc: 63}
	l := slices.Repeat([]api.Event{longest}, report.MaxEvents)
	text, e := report.Write(l)
	if e != api.OK || text != strings.Repeat("preempt g65535 g65535 t255 p63\n", report.MaxEvents) {
		t.Errorf("Write: %d bytes, %v", len(text), e)
	}
	if got, e := report.Read(text); e != api.OK || !slices.Equal(got, l) {
		t.Errorf("Read: %d events, %v", len(got), e)
	}
	for _, l := range [][]api.Event{append(l, longest), make([]api.Event, report.MaxEvents+1)} {
		if text, e := report.Write(l); text != "" || e != api.ErrLong {
			t.Errorf("Write of too many: %d bytes, %v", len(text), e)
		}
	}
	wrong(t, text+"start g0 t0\n", text+"start", strings.Repeat("exit g0 t0\n", report.MaxEvents+1))
}

// Promise 34.1: a text of more than MaxBytes bytes is not read at all.
func TestReadLong(t *testing.T) {
	for _, filler := range []string{"x", "start g0 t0\n", " ", "\n"} {
		text := strings.Repeat(filler, report.MaxBytes/len(filler)+1)
		if l, e := report.Read(text[:report.MaxBytes+1]); l != nil || e != api.ErrLong {
			t.Errorf("Read of too much: %v", e)
		}
		wrong(t, text[:report.MaxBytes])
	}
}

// wrong holds that texts are none of events.
func wrong(t *testing.T, texts ...string) {
	t.Helper()
	for _, text := range texts {
		if l, e := report.Read(text); e != api.ErrForm || l != nil {
			t.Errorf("Read of %.200q: %d events, %v", text, len(l), e)
		}
	}
}

// Promise 34.1: what is no text of events.
func TestReadWrong(t *testing.T) {
	wrong(t, "\n", " ", " \n", "start", "start\n", "start \n", "start g0\n", "start t0\n", "start p0\n", "start g0 p0\n", "start g0 t0", "start g0 t0\n\n", "\nstart g0 t0\n", "start g0 t0 \n", " start g0 t0\n", "start  g0 t0\n", "start g0  t0\n", "start\tg0 t0\n", "start g0 t0\r\n",
		"Start g0 t0\n", "begin g0 t0\n", " g0 t0\n", "g0 t0\n", "1 g0 t0\n", "startg0 t0\n", "start g0t0\n", "start G0 t0\n", "start g0 T0\n", "start g0 t0 P0\n", "start 0 t0\n", "start g t0\n", "start g0 t\n", "start g0 t0 p\n",
		"start t0 g0\n", "start t0 p0\n", "start p0 g0 t0\n", "start g0 p0 t0\n", "start g0 t0 g1\n", "start g0 t0 p0 g1\n", "start g0 g1 g2 t0\n", "start g0 t0 t0\n", "start g0 t0 t1\n", "start g0 t0 p0 p0\n", "start g0 t0 p0 x\n", "start g0 t0 x1\n", "start g0 t0 p0 t0\n",
		"start g00 t0\n", "start g0 g01 t0\n", "start g0 t00\n", "start g0 t0 p00\n", "start g+0 t0\n", "start g-0 t0\n", "start g-1 t0\n", "start g0 g-1 t0\n", "start g0 t-1\n", "start g0 t0 p-1\n", "start g-1 g0 t0\n", "start g0x t0\n", "start g0.0 t0\n", "start g1_0 t0\n", "start g１ t0\n",
		"start g65536 t0\n", "start g0 g65536 t0\n", "start g0 t256\n", "start g0 t0 p64\n", "start g4294967296 t0\n", "start g18446744073709551616 t0\n", "start g0 t18446744073709551617\n", "start g0 g9223372036854775808 t0\n",
		"start g0 t0\nstart\n", "start g0 t0\nstop g0 t0\n", "start g0 t0\nexit g0 t0")
}

// Promise 34.3: a text that a slip has changed is none, or just that of what is read.
func TestReadSlips(t *testing.T) {
	text := "start g10 t2 p1\nspawn g1 g65 t12 p20\nqueue g7 t3\nready g0 g4 t0 p9\n"
	read := 0
	for at := 0; at <= len(text); at++ {
		for _, c := range []byte("0123456789 \ngtpxs-+\x00") {
			slips := []string{text[:at] + string(c) + text[at:]}
			if at < len(text) {
				slips = append(slips, text[:at]+text[at+1:], text[:at]+string(c)+text[at+1:])
			}
			for _, slip := range slips {
				l, e := report.Read(slip)
				if e == api.ErrForm && l == nil {
					continue
				}
				read++
				if back, f := report.Write(l); e != api.OK || f != api.OK || back != slip {
					t.Errorf("Read of %q: %v, %v", slip, e, l)
				}
			}
		}
	}
	if read < 100 {
		t.Errorf("few slips are read: %d", read)
	}
}

// Promise 34.3: what is written is read as it was; a world's events may all be told.
func TestWorlds(t *testing.T) {
	for seed := range uint64(60) {
		r := plays.New(seed + 9000)
		c := r.Config(api.Config{Procs: 64, Threads: 256, Gs: 65536})
		if seed%2 == 0 {
			c = r.Config(api.Config{Procs: 3, Threads: 6, Gs: 20})
		}
		x, e := world.New(c, r.Words(), r.Draws())
		if e != api.OK {
			t.Fatalf("New: %v", e)
		}
		s := r.NewScript(c.Threads)
		for range 4000 {
			x.Do(s.Next())
		}
		text, e := report.Write(x.Log())
		back, f := report.Read(text)
		if e != api.OK || f != api.OK || !slices.Equal(back, x.Log()) || strings.Count(text, "\n") != len(back) {
			t.Errorf("seed %d: %v, %v, %d of %d events", seed, e, f, len(back), len(x.Log()))
		}
	}
}

// Promise 34.2: the events of a goroutine are those whose G or Other it is, in order.
func TestOf(t *testing.T) {
	l := []api.Event{{Kind: 1, G: 0, Other: -1}, {Kind: 2, G: 0, Other: 1}, {Kind: 2, G: 2, Other: 0}, {Kind: 77, G: 1, Other: 1}, {Kind: 1, G: 3, Other: -1}, {Kind: 1, G: -7, Other: math.MaxInt}}
	kept := slices.Clone(l)
	for g, want := range map[int][]int{0: {0, 1, 2}, 1: {1, 3}, 2: {2}, 3: {4}, 4: nil, api.None: {0, 4}, -7: {5}, math.MaxInt: {5}, math.MinInt: nil} {
		var events []api.Event
		for _, i := range want {
			events = append(events, l[i])
		}
		got := report.Of(l, g)
		if !slices.Equal(got, events) {
			t.Errorf("Of %d: %v, want %v", g, got, events)
		}
		for i := range got {
			got[i] = api.Event{}
		}
	}
	if report.Of(nil, 0) != nil || !slices.Equal(l, kept) {
		t.Errorf("Of none, or %v changed", l)
	}
}

// Promise 34.2: the Kind of a word; of none 0.
func TestKind(t *testing.T) {
	for kind, word := range words() {
		if report.Kind(word) != kind {
			t.Errorf("%q is %d, want %d", word, report.Kind(word), kind)
		}
	}
	for _, word := range []string{" ", "Start", "start ", " start", "star", "starts", "step", "mon", "0", "1", "\x00", "\xff", strings.Repeat("exit", 1000)} {
		if report.Kind(word) != 0 {
			t.Errorf("%.40q is %d", word, report.Kind(word))
		}
	}
}
