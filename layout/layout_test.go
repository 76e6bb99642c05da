package layout_test

import (
	"math"
	"testing"

	"turnspit/api"
	"turnspit/layout"
)

// is is what a word is: its area, whose it is, and which field.
type is struct{ area, n, field int }

// walk lists what all words of a config are, from 0 on, as the chapter tells them one behind the other.
func walk(c api.Config) []is {
	var l []is
	put := func(area, n, fields int) {
		for field := range fields {
			l = append(l, is{area, n, field})
		}
	}
	put(layout.Locks, 0, 3)
	put(layout.Locks, 1, 3)
	for range 14 { // a word of the scheduler's is told by its number
		l = append(l, is{layout.Words, 0, len(l)})
	}
	for p := range c.Procs {
		put(layout.Procs, p, 8)
		put(layout.Rings, p, 256)
	}
	for t := range c.Threads {
		put(layout.ThreadsArea, t, 3)
	}
	for g := range c.Gs {
		put(layout.GsArea, g, 2)
	}
	return l
}

// find asks the layout for the number of a word by what it is.
func find(l *layout.Layout, x is) int {
	switch x.area {
	case layout.Locks:
		return []func(int) int{l.Ticket, l.Serving, l.Owner}[x.field](x.n)
	case layout.Words:
		return l.Word(x.field)
	case layout.Procs:
		return l.Proc(x.n, x.field)
	case layout.Rings:
		return l.Ring(x.n, uint64(x.field))
	case layout.ThreadsArea:
		return l.Thread(x.n, x.field)
	case layout.GsArea:
		return l.G(x.n, x.field)
	}
	return api.None
}

// configs are some that may be, the least and the greatest among them.
func configs() []api.Config {
	return []api.Config{
		{Procs: 1, Threads: 1, Gs: 1}, {Procs: 2, Threads: 3, Gs: 4}, {Procs: 1, Threads: 256, Gs: 7}, {Procs: 3, Threads: 3, Gs: 1},
		{Procs: 64, Threads: 64, Gs: 1}, {Procs: 63, Threads: 255, Gs: 65535}, {Procs: 64, Threads: 256, Gs: 65536},
	}
}

// of is the layout of a config that may be.
func of(t *testing.T, c api.Config) *layout.Layout {
	t.Helper()
	l, e := layout.Of(c)
	if e != api.OK || l == nil {
		t.Fatalf("Of(%v): %v, %v", c, l, e)
	}
	return l
}

// far are numbers that are no thing's, whatever the config.
func far() []int {
	return []int{math.MinInt, math.MinInt + 1, math.MinInt32, -256, -2, -1, 1 << 31, 1 << 32, 1 << 56, 1 << 62, math.MaxInt - 1, math.MaxInt}
}

// Promise 5.1: which configs may be, at the edges, written out; of the others Of answers ErrArg, and no layout.
func TestRight(t *testing.T) {
	cases := []struct {
		procs, threads, gs int
		want               bool
	}{
		{0, 0, 0, false}, {1, 1, 1, true}, {64, 256, 65536, true}, {65, 257, 65537, false},
		{0, 1, 1, false}, {-1, 1, 1, false}, {64, 64, 1, true}, {65, 65, 1, false}, {65, 256, 1, false}, {math.MinInt, 1, 1, false}, {math.MaxInt, math.MaxInt, 1, false},
		{1, 0, 1, false}, {1, -1, 1, false}, {2, 1, 1, false}, {2, 2, 1, true}, {64, 63, 1, false}, {1, 256, 1, true}, {1, 257, 1, false}, {1, math.MaxInt, 1, false}, {1, math.MinInt, 1, false},
		{1, 1, 0, false}, {1, 1, -1, false}, {1, 1, 65535, true}, {1, 1, 65536, true}, {1, 1, 65537, false}, {1, 1, math.MaxInt, false}, {1, 1, math.MinInt, false},
		{-1, -1, -1, false}, {0, 0, 1, false}, {-2, -1, 1, false}, {1, 1, 2, true}, {3, 200, 77, true},
	}
	for _, x := range cases {
		c := api.Config{Procs: x.procs, Threads: x.threads, Gs: x.gs}
		if got := layout.Right(c); got != x.want {
			t.Errorf("Right(%v): %v", c, got)
		}
		l, e := layout.Of(c)
		if x.want && (l == nil || e != api.OK || l.Config() != c) || !x.want && (l != nil || e != api.ErrArg) {
			t.Errorf("Of(%v): %v, %v", c, l, e)
		}
	}
}

// Promise 5.1: each config around the edges of all three numbers.
func TestRightAround(t *testing.T) {
	within := func(x, from, to int) bool { return x >= from && x <= to }
	for procs := -1; procs <= 66; procs++ {
		for threads := -1; threads <= 258; threads++ {
			for _, gs := range []int{-1, 0, 1, 2, 65535, 65536, 65537} {
				c := api.Config{Procs: procs, Threads: threads, Gs: gs}
				want := within(procs, 1, 64) && within(threads, procs, 256) && within(gs, 1, 65536)
				if got := layout.Right(c); got != want {
					t.Fatalf("Right(%v): %v", c, got)
				}
			}
		}
	}
}

// Promise 5.1: Config is that which was handed in, Len how many words there are.
func TestConfigAndLen(t *testing.T) {
	for c, want := range map[api.Config]int{
		{Procs: 1, Threads: 1, Gs: 1}: 289, {Procs: 2, Threads: 3, Gs: 4}: 565, {Procs: 1, Threads: 256, Gs: 7}: 1066,
		{Procs: 64, Threads: 64, Gs: 1}: 17110, {Procs: 64, Threads: 256, Gs: 65536}: 148756,
	} {
		if l := of(t, c); l.Config() != c || l.Len() != want {
			t.Errorf("%v: Config %v, Len %d, want %d", c, l.Config(), l.Len(), want)
		}
	}
}

// The chapter's example.
func TestExample(t *testing.T) {
	l := of(t, api.Config{Procs: 1, Threads: 1, Gs: 1})
	if l.Len() != 289 || l.Proc(0, layout.Tail) != 22 || l.G(0, layout.GLink) != 288 {
		t.Errorf("Len %d, Tail %d, GLink %d", l.Len(), l.Proc(0, layout.Tail), l.G(0, layout.GLink))
	}
}

// Promise 5.2: the names of words, fields and areas have the numbers that the chapter gives them.
func TestNames(t *testing.T) {
	cases := []struct {
		first int
		names []int
	}{
		{6, []int{layout.GlobHead, layout.GlobTail, layout.GlobSize, layout.IdleP, layout.IdlePs, layout.IdleM, layout.IdleMs, layout.Spinning, layout.Needs, layout.Threads, layout.FreeG, layout.Gs, layout.Now, layout.Mask}},
		{0, []int{layout.Status, layout.Head, layout.Tail, layout.Next, layout.Turns, layout.Calls, layout.Preempt, layout.PLink}},
		{0, []int{layout.Note, layout.Given, layout.MLink}},
		{0, []int{layout.GStatus, layout.GLink}},
		{1, []int{layout.Locks, layout.Words, layout.Procs, layout.Rings, layout.ThreadsArea, layout.GsArea}},
	}
	for _, x := range cases {
		for i, got := range x.names {
			if got != x.first+i {
				t.Errorf("name %d of those from %d on: %d", i, x.first, got)
			}
		}
	}
}

// Promise 5.2: words of a layout, written out.
func TestWordsWrittenOut(t *testing.T) {
	l := of(t, api.Config{Procs: 2, Threads: 3, Gs: 4})
	cases := []struct{ got, want int }{
		{l.Ticket(0), 0}, {l.Serving(0), 1}, {l.Owner(0), 2}, {l.Ticket(1), 3}, {l.Serving(1), 4}, {l.Owner(1), 5},
		{l.Word(layout.GlobHead), 6}, {l.Word(layout.Spinning), 13}, {l.Word(layout.Mask), 19},
		{l.Proc(0, layout.Status), 20}, {l.Proc(0, layout.PLink), 27}, {l.Proc(1, layout.Status), 284}, {l.Proc(1, layout.PLink), 291},
		{l.Ring(0, 0), 28}, {l.Ring(0, 255), 283}, {l.Ring(1, 0), 292}, {l.Ring(1, 255), 547},
		{l.Thread(0, layout.Note), 548}, {l.Thread(0, layout.MLink), 550}, {l.Thread(2, layout.Note), 554}, {l.Thread(2, layout.MLink), 556},
		{l.G(0, layout.GStatus), 557}, {l.G(0, layout.GLink), 558}, {l.G(3, layout.GStatus), 563}, {l.G(3, layout.GLink), 564},
	}
	for i, x := range cases {
		if x.got != x.want {
			t.Errorf("word %d: %d, want %d", i, x.got, x.want)
		}
	}
}

// Promise 5.2: a place of a ring is what the number leaves by RingSize.
func TestRingGoesRound(t *testing.T) {
	for _, c := range configs() {
		l := of(t, c)
		for _, p := range []int{0, c.Procs - 1} {
			first := 20 + 264*p + 8
			for i, want := range map[uint64]int{
				0: 0, 1: 1, 255: 255, 256: 0, 257: 1, 511: 255, 512: 0, 1<<32 - 1: 255, 1 << 32: 0, 1<<32 + 7: 7,
				1<<63 - 1: 255, 1 << 63: 0, math.MaxUint64 - 255: 0, math.MaxUint64: 255,
			} {
				if got := l.Ring(p, i); got != first+want {
					t.Errorf("%v, Ring(%d, %d): %d, want %d", c, p, i, got, first+want)
				}
			}
		}
	}
}

// Promise 5.2: None of locks, names, things and fields that there are not.
func TestNoSuchWord(t *testing.T) {
	for _, c := range configs() {
		l := of(t, c)
		none := func(what string, n, field, got int) {
			if got != api.None {
				t.Errorf("%v, %s %d, %d: %d", c, what, n, field, got)
			}
		}
		for _, lock := range append(far(), 2, 3, 6) {
			none("Ticket", lock, 0, l.Ticket(lock))
			none("Serving", lock, 0, l.Serving(lock))
			none("Owner", lock, 0, l.Owner(lock))
		}
		for _, w := range append(far(), 0, 1, 5, 20, 21) {
			none("Word", w, 0, l.Word(w))
		}
		noThing(none, "Proc", l.Proc, c.Procs, 8)
		noThing(none, "Thread", l.Thread, c.Threads, 3)
		noThing(none, "G", l.G, c.Gs, 2)
		for _, p := range append(far(), c.Procs, c.Procs+1) {
			for _, i := range []uint64{0, 255, 256, math.MaxUint64} {
				none("Ring", p, int(i), l.Ring(p, i))
			}
		}
	}
}

// noThing asks for things and fields of which one or both are beyond.
func noThing(none func(what string, n, field, got int), what string, at func(n, field int) int, many, fields int) {
	beyond, noFields := append(far(), many, many+1), append(far(), fields, fields+1, 263, 264)
	for _, n := range beyond {
		for _, field := range append(noFields, 0, fields-1) {
			none(what, n, field, at(n, field))
		}
	}
	for _, n := range []int{0, many - 1} {
		for _, field := range noFields {
			none(what, n, field, at(n, field))
		}
	}
}

// Promise 5.3: what each word is, written out at the borders of the areas.
func TestWhichWrittenOut(t *testing.T) {
	l := of(t, api.Config{Procs: 2, Threads: 3, Gs: 4})
	for at, want := range map[int]is{
		0: {layout.Locks, 0, 0}, 2: {layout.Locks, 0, 2}, 3: {layout.Locks, 1, 0}, 5: {layout.Locks, 1, 2},
		6: {layout.Words, 0, layout.GlobHead}, 7: {layout.Words, 0, layout.GlobTail}, 19: {layout.Words, 0, layout.Mask},
		20: {layout.Procs, 0, layout.Status}, 27: {layout.Procs, 0, layout.PLink}, 28: {layout.Rings, 0, 0}, 283: {layout.Rings, 0, 255},
		284: {layout.Procs, 1, layout.Status}, 291: {layout.Procs, 1, layout.PLink}, 292: {layout.Rings, 1, 0}, 547: {layout.Rings, 1, 255},
		548: {layout.ThreadsArea, 0, layout.Note}, 550: {layout.ThreadsArea, 0, layout.MLink}, 551: {layout.ThreadsArea, 1, layout.Note}, 556: {layout.ThreadsArea, 2, layout.MLink},
		557: {layout.GsArea, 0, layout.GStatus}, 558: {layout.GsArea, 0, layout.GLink}, 564: {layout.GsArea, 3, layout.GLink}, 565: {}, -1: {},
	} {
		if area, n, field := l.Which(at); (is{area, n, field}) != want {
			t.Errorf("Which(%d): %d, %d, %d, want %v", at, area, n, field, want)
		}
	}
}

// Promise 5.3, R2: what is no word has no area, and all is 0 beside it.
func TestWhichBeyond(t *testing.T) {
	for _, c := range configs() {
		l := of(t, c)
		for _, at := range append(far(), l.Len(), l.Len()+1) {
			if area, n, field := l.Which(at); area != 0 || n != 0 || field != 0 {
				t.Errorf("%v, Which(%d): %d, %d, %d", c, at, area, n, field)
			}
		}
	}
}

// Promises 5.2 and 5.3: all words, as they lie one behind the other, are told by number, and found by what they are.
func TestAllWords(t *testing.T) {
	for _, c := range configs() {
		l, want := of(t, c), walk(c)
		if l.Len() != len(want) {
			t.Errorf("%v: Len %d, want %d", c, l.Len(), len(want))
		}
		for at, x := range want {
			if area, n, field := l.Which(at); (is{area, n, field}) != x {
				t.Fatalf("%v, Which(%d): %d, %d, %d, want %v", c, at, area, n, field, x)
			}
			if got := find(l, x); got != at {
				t.Fatalf("%v, the word of %v: %d, want %d", c, x, got, at)
			}
		}
	}
}

// Promise 5.4: each number below Len is just one word's.
func TestEachNumberOnce(t *testing.T) {
	for _, c := range configs() {
		l := of(t, c)
		times := make([]int, l.Len())
		for _, x := range walk(c) {
			at := find(l, x)
			if at < 0 || at >= len(times) {
				t.Fatalf("%v, the word of %v: %d", c, x, at)
			}
			times[at]++
		}
		for at, n := range times {
			if n != 1 {
				t.Fatalf("%v: %d words have the number %d", c, n, at)
			}
		}
	}
}

// The promises of no layout: None, 0, the zero config.
func TestNoLayout(t *testing.T) {
	var none *layout.Layout
	if none.Config() != (api.Config{}) || none.Len() != 0 {
		t.Errorf("Config %v, Len %d", none.Config(), none.Len())
	}
	for _, n := range append(far(), 0, 1, 5, 6, 13, 19, 20) {
		for _, field := range append(far(), 0, 1, 7) {
			got := [...]int{none.Ticket(n), none.Serving(n), none.Owner(n), none.Word(n), none.Proc(n, field), none.Ring(n, uint64(field)), none.Thread(n, field), none.G(n, field)}
			if got != [...]int{-1, -1, -1, -1, -1, -1, -1, -1} {
				t.Errorf("words of no layout, at %d, %d: %v", n, field, got)
			}
		}
		if area, n, field := none.Which(n); area != 0 || n != 0 || field != 0 {
			t.Errorf("Which of no layout: %d, %d, %d", area, n, field)
		}
	}
}

// R1: of a layout that Of did not make no call panics; it has no processors, threads and goroutines.
func TestBareLayout(t *testing.T) {
	l := &layout.Layout{}
	for _, n := range append(far(), 0, 1, 5, 6, 19, 20, 21) {
		l.Ticket(n)
		l.Serving(n)
		l.Owner(n)
		l.Word(n)
		l.Which(n)
		if l.Proc(n, 0) != api.None || l.Ring(n, 0) != api.None || l.Thread(n, 0) != api.None || l.G(n, 0) != api.None {
			t.Errorf("a bare layout has a thing %d", n)
		}
	}
}

// Layouts of unlike configs do not meddle with one another.
func TestLayoutsApart(t *testing.T) {
	a, b := of(t, api.Config{Procs: 1, Threads: 1, Gs: 1}), of(t, api.Config{Procs: 2, Threads: 3, Gs: 4})
	if a.Len() != 289 || b.Len() != 565 || a.G(0, 0) != 287 || b.G(0, 0) != 557 {
		t.Errorf("Len %d and %d, G %d and %d", a.Len(), b.Len(), a.G(0, 0), b.G(0, 0))
	}
}
