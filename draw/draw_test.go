package draw_test

import (
	"math"
	"slices"
	"testing"

	"turnspit/api"
	"turnspit/draw"
)

// state is what a cursor tells of itself: Left, Told, and the words to come.
type state struct {
	left, told int
	words      []uint64
}

func stateOf(c *draw.Cursor, many int) state {
	s := state{left: c.Left(), told: c.Told()}
	for i := range many {
		s.words = append(s.words, c.Peek(i))
	}
	return s
}

// check holds a cursor against what is left of its list, and how many were told.
func check(t *testing.T, c *draw.Cursor, left []uint64, told int) {
	t.Helper()
	got := stateOf(c, len(left)+2)
	want := append(slices.Clone(left), 0, 0)
	if got.left != len(left) || got.told != told || !slices.Equal(got.words, want) {
		t.Fatalf("cursor: %v, want %d left, %d told, %v", got, len(left), told, want)
	}
}

// Promise 2.1: Next tells the list in order, and noughts behind it, for ever.
func TestNext(t *testing.T) {
	l := []uint64{7, 0, math.MaxUint64, 9}
	c := draw.New(l)
	check(t, c, l, 0)
	for i, w := range l {
		if got := c.Next(); got != w {
			t.Errorf("word %d: %d, want %d", i, got, w)
		}
		check(t, c, l[i+1:], i+1)
	}
	for i := range 1000 {
		if got := c.Next(); got != 0 {
			t.Errorf("behind the end: %d", got)
		}
		check(t, c, nil, len(l)+i+1)
	}
}

// Promise 2.1, R3: the list is copied, and not changed.
func TestNewCopies(t *testing.T) {
	l := []uint64{7, 9, 11}
	a, b := draw.New(l), draw.New(l)
	if a.Next() != 7 || a.Below(5) != 4 {
		t.Errorf("the list is not told")
	}
	if !slices.Equal(l, []uint64{7, 9, 11}) {
		t.Errorf("the list was changed: %v", l)
	}
	l[0], l[2] = 1, 2
	check(t, a, []uint64{11}, 2)
	check(t, b, []uint64{7, 9, 11}, 0)
}

// Promise 2.1, R3: nil and empty lists are the same.
func TestNewOfNone(t *testing.T) {
	for _, l := range [][]uint64{nil, {}} {
		c := draw.New(l)
		if c == nil {
			t.Fatal("no cursor")
		}
		check(t, c, nil, 0)
		if c.Skip(1) != api.ErrRange || c.Skip(0) != api.OK {
			t.Errorf("Skip of none")
		}
		if c.Next() != 0 || c.Below(9) != 0 {
			t.Errorf("a word of none")
		}
		check(t, c, nil, 2)
	}
}

// Promise 2.1: Below is what the next word leaves, and tells it.
func TestBelow(t *testing.T) {
	cases := []struct {
		w    uint64
		n    int
		want int
	}{
		{9, 4, 1}, {9, 1, 0}, {9, 9, 0}, {9, 10, 9}, {0, 5, 0}, {8, 3, 2},
		{math.MaxUint64, 10, 5}, {math.MaxUint64, 2, 1}, {math.MaxUint64, math.MaxInt, 1},
		{1 << 63, 7, 1}, {1 << 63, math.MaxInt, 1}, {math.MaxInt - 1, math.MaxInt, math.MaxInt - 1}, {1<<40 + 3, 1 << 36, 3},
	}
	for _, x := range cases {
		c := draw.New([]uint64{x.w, 5})
		if got := c.Below(x.n); got != x.want {
			t.Errorf("Below(%d) of %d: %d, want %d", x.n, x.w, got, x.want)
		}
		check(t, c, []uint64{5}, 1)
	}
}

// Promise 2.1: Below of n below 1 is 0, and tells nothing.
func TestBelowOfNone(t *testing.T) {
	c := draw.New([]uint64{7})
	for _, n := range []int{0, -1, -7, math.MinInt} {
		if got := c.Below(n); got != 0 {
			t.Errorf("Below(%d): %d", n, got)
		}
		check(t, c, []uint64{7}, 0)
	}
	c.Next()
	if c.Below(0) != 0 || c.Below(-1) != 0 {
		t.Errorf("Below of none, behind the end")
	}
	check(t, c, nil, 1)
}

// Promise 2.1: Below behind the end is 0, and is told.
func TestBelowBehindTheEnd(t *testing.T) {
	c := draw.New([]uint64{3})
	c.Next()
	for i := range 5 {
		if got := c.Below(i + 1); got != 0 {
			t.Errorf("Below(%d): %d", i+1, got)
		}
		check(t, c, nil, i+2)
	}
}

// The chapter's example.
func TestExample(t *testing.T) {
	c := draw.New([]uint64{7, 9})
	if a, b, x, y := c.Next(), c.Below(4), c.Next(), c.Next(); a != 7 || b != 1 || x != 0 || y != 0 {
		t.Errorf("%d, %d, %d, %d", a, b, x, y)
	}
}

// Promise 2.2: Peek tells what Next would tell, and tells nothing itself.
func TestPeek(t *testing.T) {
	l := []uint64{7, 9, math.MaxUint64}
	c := draw.New(l)
	for told := range 6 {
		left := l[min(told, len(l)):]
		for i := range 8 {
			var want uint64
			if i < len(left) {
				want = left[i]
			}
			if got := c.Peek(i); got != want {
				t.Errorf("%d told, Peek(%d): %d, want %d", told, i, got, want)
			}
		}
		for _, i := range []int{math.MinInt, -7, -1, 1 << 32, math.MaxInt - 1, math.MaxInt} {
			if got := c.Peek(i); got != 0 {
				t.Errorf("%d told, Peek(%d): %d", told, i, got)
			}
		}
		check(t, c, left, told)
		c.Next()
	}
}

// Promise 2.2: Skip tells so many words.
func TestSkip(t *testing.T) {
	l := []uint64{1, 2, 3, 4, 5}
	for first := 0; first <= len(l); first++ {
		for n := 0; n <= len(l)-first; n++ {
			c := draw.New(l)
			for range first {
				c.Next()
			}
			if f := c.Skip(n); f != api.OK {
				t.Errorf("%d told, Skip(%d): %v", first, n, f)
			}
			check(t, c, l[first+n:], first+n)
		}
	}
}

// Promise 2.2, R2: Skip below 0, or above Left, is ErrRange, and changes nothing.
func TestSkipBeyond(t *testing.T) {
	l := []uint64{1, 2, 3}
	c := draw.New(l)
	for told := range 6 {
		left := l[min(told, len(l)):]
		for _, n := range []int{math.MinInt, -1, len(left) + 1, len(left) + 7, 1 << 32, math.MaxInt} {
			if f := c.Skip(n); f != api.ErrRange {
				t.Errorf("%d told, Skip(%d): %v", told, n, f)
			}
			check(t, c, left, told)
		}
		c.Next()
	}
}

// Promise 2.2: behind the end Skip of 0 is allowed, and Told is what was told ahead of it.
func TestSkipBehindTheEnd(t *testing.T) {
	c := draw.New([]uint64{4})
	for range 3 {
		c.Next()
	}
	if f := c.Skip(0); f != api.OK {
		t.Errorf("Skip(0): %v", f)
	}
	check(t, c, nil, 3)
}

// Promise 2.3: Below(n) is below n, and from 0 on.
func TestBelowIsBelow(t *testing.T) {
	w := uint64(1)
	for range 2000 {
		w = w*6364136223846793005 + 1442695040888963407
		for _, n := range []int{1, 2, 3, 61, 256, 1 << 31, 1 << 62, math.MaxInt, int(w >> 1), int(w >> 40)} {
			c := draw.New([]uint64{w})
			if got := c.Below(n); got < 0 || n > 0 && got >= n {
				t.Fatalf("Below(%d) of %d: %d", n, w, got)
			}
		}
	}
}

// Promises 2.1 and 2.2 of no cursor, and of one without a list: nothing is told of the one, noughts are of the other.
func TestNoCursor(t *testing.T) {
	var none *draw.Cursor
	for _, n := range []int{math.MinInt, -1, 0, 1, math.MaxInt} {
		if none.Next() != 0 || none.Below(n) != 0 || none.Left() != 0 || none.Told() != 0 || none.Peek(n) != 0 {
			t.Errorf("no cursor tells something, at %d", n)
		}
		if f := none.Skip(n); f != api.ErrArg {
			t.Errorf("no cursor, Skip(%d): %v", n, f)
		}
	}
	bare := &draw.Cursor{}
	if bare.Next() != 0 || bare.Below(3) != 0 || bare.Skip(1) != api.ErrRange {
		t.Errorf("a cursor without a list")
	}
	check(t, bare, nil, 2)
}
