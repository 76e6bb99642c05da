package order_test

import (
	"math"
	"slices"
	"testing"

	"turnspit/api"
	"turnspit/order"
)

// strides are the strides of n things, told apart by trying each divisor.
func strides(n int) []int {
	var l []int
	for s := 1; s <= n; s++ {
		common := false
		for d := 2; d <= s; d++ {
			common = common || s%d == 0 && n%d == 0
		}
		if !common {
			l = append(l, s)
		}
	}
	return l
}

// draws are words at which an order may begin.
func draws() []uint64 {
	l := []uint64{0, 1, 2, 3, 5, 6, 63, 64, 65, 1 << 31, 1 << 32, 1<<63 - 1, 1 << 63, 1<<63 + 1, math.MaxUint64 - 1, math.MaxUint64}
	w := uint64(1)
	for range 50 {
		w = w*6364136223846793005 + 1442695040888963407
		l = append(l, w)
	}
	return l
}

// others are numbers of things that may not be.
func others() []int {
	return []int{math.MinInt, -64, -2, -1, 0, api.MaxProcs + 1, api.MaxProcs + 2, 1 << 32, math.MaxInt}
}

// Promise 4.1: the strides of a few numbers, written out.
func TestStridesWrittenOut(t *testing.T) {
	cases := map[int][]int{
		1: {1}, 2: {1}, 3: {1, 2}, 4: {1, 3}, 5: {1, 2, 3, 4}, 6: {1, 5}, 7: {1, 2, 3, 4, 5, 6}, 8: {1, 3, 5, 7},
		9: {1, 2, 4, 5, 7, 8}, 10: {1, 3, 7, 9}, 12: {1, 5, 7, 11}, 15: {1, 2, 4, 7, 8, 11, 13, 14}, 30: {1, 7, 11, 13, 17, 19, 23, 29},
	}
	for n, want := range cases {
		if got := order.Strides(n); !slices.Equal(got, want) {
			t.Errorf("Strides(%d): %v, want %v", n, got, want)
		}
	}
}

// Promise 4.1: the strides of all numbers that may be.
func TestStrides(t *testing.T) {
	for n := 1; n <= api.MaxProcs; n++ {
		if got, want := order.Strides(n), strides(n); !slices.Equal(got, want) {
			t.Errorf("Strides(%d): %v, want %v", n, got, want)
		}
	}
}

// Promise 4.1: an order begins with what the draw leaves.
func TestStart(t *testing.T) {
	cases := []struct {
		n    int
		w    uint64
		want int
	}{
		{1, 77, 0}, {2, 77, 1}, {4, 6, 2}, {10, 29, 9}, {64, 127, 63}, {64, 128, 0},
		{10, math.MaxUint64, 5}, {64, math.MaxUint64, 63}, {3, 1 << 63, 2}, {7, 0, 0},
	}
	for _, x := range cases {
		if got := order.Start(x.n, x.w); got != x.want {
			t.Errorf("Start(%d, %d): %d, want %d", x.n, x.w, got, x.want)
		}
	}
}

// Promise 4.1: the step is a stride, by what is left when the start is taken off.
func TestStep(t *testing.T) {
	cases := []struct {
		n    int
		w    uint64
		want int
	}{
		{1, 0, 1}, {1, 77, 1}, {2, 5, 1}, {3, 2, 1}, {3, 3, 2}, {3, 5, 2}, {3, 6, 1},
		{4, 3, 1}, {4, 4, 3}, {4, 6, 3}, {4, 8, 1}, {8, 8*2 + 3, 5}, {8, 8 * 4, 1}, {10, 10*3 + 9, 9}, {10, 10*7 + 9, 9},
		{10, math.MaxUint64, 3}, {64, math.MaxUint64, 63}, {64, 1 << 63, 1}, {5, 0, 1},
	}
	for _, x := range cases {
		if got := order.Step(x.n, x.w); got != x.want {
			t.Errorf("Step(%d, %d): %d, want %d", x.n, x.w, got, x.want)
		}
	}
}

// Promises 4.1 and 4.2: all orders, from start, step and strides by the chapter's words.
func TestOrder(t *testing.T) {
	for n := 1; n <= api.MaxProcs; n++ {
		l := strides(n)
		for _, w := range draws() {
			start, step := int(w%uint64(n)), l[w/uint64(n)%uint64(len(l))]
			if order.Start(n, w) != start || order.Step(n, w) != step {
				t.Fatalf("of %d, draw %d: start %d, step %d, want %d and %d", n, w, order.Start(n, w), order.Step(n, w), start, step)
			}
			want := []int{start}
			for len(want) < n {
				next := want[len(want)-1] + step
				if next >= n {
					next -= n
				}
				want = append(want, next)
			}
			if got := order.Order(n, w); !slices.Equal(got, want) {
				t.Fatalf("Order(%d, %d): %v, want %v", n, w, got, want)
			}
			if got := slices.Collect(order.Through(n, w)); !slices.Equal(got, want) {
				t.Fatalf("Through(%d, %d): %v, want %v", n, w, got, want)
			}
		}
	}
}

// The chapter's example, and others written out.
func TestOrderWrittenOut(t *testing.T) {
	cases := []struct {
		n    int
		w    uint64
		want []int
	}{
		{4, 6, []int{2, 1, 0, 3}}, {4, 2, []int{2, 3, 0, 1}}, {1, 0, []int{0}}, {1, math.MaxUint64, []int{0}},
		{2, 0, []int{0, 1}}, {2, math.MaxUint64, []int{1, 0}}, {3, 0, []int{0, 1, 2}}, {3, 4, []int{1, 0, 2}},
		{8, 19, []int{3, 0, 5, 2, 7, 4, 1, 6}}, {10, math.MaxUint64, []int{5, 8, 1, 4, 7, 0, 3, 6, 9, 2}},
	}
	for _, x := range cases {
		if got := order.Order(x.n, x.w); !slices.Equal(got, x.want) {
			t.Errorf("Order(%d, %d): %v, want %v", x.n, x.w, got, x.want)
		}
	}
}

// Promise 4.2: a range over Through that breaks off ends there, and one anew begins anew.
func TestThroughBreaksOff(t *testing.T) {
	for _, n := range []int{1, 2, 5, api.MaxProcs} {
		want := order.Order(n, 123456789)
		through := order.Through(n, 123456789)
		for stop := 1; stop <= n; stop++ {
			var got []int
			for k := range through {
				got = append(got, k)
				if len(got) == stop {
					break
				}
			}
			if !slices.Equal(got, want[:stop]) {
				t.Errorf("of %d, broken off at %d: %v, want %v", n, stop, got, want[:stop])
			}
		}
		if got := slices.Collect(through); !slices.Equal(got, want) {
			t.Errorf("of %d, anew: %v, want %v", n, got, want)
		}
	}
}

// Promise 4.2: two ranges over one Through, one within the other, each tell the whole order.
func TestThroughWithin(t *testing.T) {
	through := order.Through(5, 17)
	want := order.Order(5, 17)
	var outer []int
	for k := range through {
		outer = append(outer, k)
		if got := slices.Collect(through); !slices.Equal(got, want) {
			t.Errorf("within: %v, want %v", got, want)
		}
	}
	if !slices.Equal(outer, want) {
		t.Errorf("around: %v, want %v", outer, want)
	}
}

// The promises of n below 1, or above MaxProcs: nothing, and 0.
func TestOfNone(t *testing.T) {
	for _, n := range others() {
		if l := order.Strides(n); len(l) != 0 {
			t.Errorf("Strides(%d): %v", n, l)
		}
		for _, w := range []uint64{0, 1, 77, math.MaxUint64} {
			if order.Start(n, w) != 0 || order.Step(n, w) != 0 || len(order.Order(n, w)) != 0 {
				t.Errorf("of %d, draw %d: something", n, w)
			}
			for k := range order.Through(n, w) {
				t.Errorf("Through(%d, %d): %d", n, w, k)
			}
		}
	}
}

// R3: what is answered is the caller's own.
func TestAnswersApart(t *testing.T) {
	a, b := order.Order(4, 6), order.Strides(8)
	a[0], b[1] = 77, 77
	if l := order.Order(4, 6); !slices.Equal(l, []int{2, 1, 0, 3}) {
		t.Errorf("Order: %v", l)
	}
	if l := order.Strides(8); !slices.Equal(l, []int{1, 3, 5, 7}) {
		t.Errorf("Strides: %v", l)
	}
}

// Promise 4.3: an order has each number once.
func TestEachOnce(t *testing.T) {
	for n := 1; n <= api.MaxProcs; n++ {
		for _, w := range draws() {
			l := order.Order(n, w)
			slices.Sort(l)
			for i, k := range l {
				if len(l) != n || i != k {
					t.Fatalf("Order(%d, %d), sorted: %v", n, w, l)
				}
			}
		}
	}
}

// Promise 4.3: so many unlike orders as numbers and strides, multiplied; a draw from there on begins anew.
func TestHowManyOrders(t *testing.T) {
	for n := 3; n <= api.MaxProcs; n++ {
		want := n * len(strides(n))
		seen := map[[api.MaxProcs]int]struct{}{}
		for w := range uint64(want + n) {
			var key [api.MaxProcs]int
			copy(key[:], order.Order(n, w))
			seen[key] = struct{}{}
			if w+1 == uint64(want) && len(seen) != want {
				t.Fatalf("of %d: %d orders, want %d", n, len(seen), want)
			}
		}
		if len(seen) != want {
			t.Errorf("of %d: %d orders in all, want %d", n, len(seen), want)
		}
	}
}
