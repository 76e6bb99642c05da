package cell_test

import (
	"math"
	"slices"
	"testing"

	"turnspit/api"
	"turnspit/cell"
)

// state is all that a memory tells of itself.
type state struct {
	words      []uint64
	clock, bad int
	last       api.Access
}

// check holds a memory against what it should tell.
func check(t *testing.T, m *cell.Mem, want state) {
	t.Helper()
	if got := m.Words(); !slices.Equal(got, want.words) {
		t.Errorf("words: %v, want %v", got, want.words)
	}
	if m.Len() != len(want.words) {
		t.Errorf("Len: %d, want %d", m.Len(), len(want.words))
	}
	for at, w := range want.words {
		if got, is := m.Peek(at); got != w || !is {
			t.Errorf("Peek(%d): %d, %v, want %d", at, got, is, w)
		}
	}
	for _, at := range []int{math.MinInt, -1, len(want.words), len(want.words) + 1, 1 << 32, math.MaxInt} {
		if got, is := m.Peek(at); got != 0 || is {
			t.Errorf("Peek(%d), beyond: %d, %v", at, got, is)
		}
	}
	if m.Clock() != want.clock || m.Bad() != want.bad {
		t.Errorf("clock %d, bad %d, want %d and %d", m.Clock(), m.Bad(), want.clock, want.bad)
	}
	if m.Last() != want.last {
		t.Errorf("last: %v, want %v", m.Last(), want.last)
	}
}

// of is a memory of words, which may be.
func of(t *testing.T, words ...uint64) *cell.Mem {
	t.Helper()
	m, e := cell.Of(words)
	if e != api.OK || m == nil {
		t.Fatalf("Of: %v", e)
	}
	return m
}

// Promise 3.1: the limit is that of the chapter.
func TestMaxWords(t *testing.T) {
	if cell.MaxWords != 262144 {
		t.Errorf("MaxWords: %d", cell.MaxWords)
	}
}

// Promise 3.1: New is a memory of so many noughts.
func TestNew(t *testing.T) {
	for _, n := range []int{0, 1, 2, 77, cell.MaxWords - 1, cell.MaxWords} {
		m, e := cell.New(n)
		if e != api.OK || m == nil {
			t.Fatalf("New(%d): %v", n, e)
		}
		if m.Len() != n || len(m.Words()) != n || slices.ContainsFunc(m.Words(), func(w uint64) bool { return w != 0 }) {
			t.Errorf("New(%d): %d words, or not all 0", n, m.Len())
		}
		if m.Clock() != 0 || m.Bad() != 0 || m.Last() != (api.Access{}) {
			t.Errorf("New(%d): something was done", n)
		}
		if n > 0 {
			m.Store(1, n-1, 5)
			if w, is := m.Peek(n - 1); w != 5 || !is || m.Bad() != 0 {
				t.Errorf("New(%d): no last word", n)
			}
		}
	}
}

// Promise 3.1, R2: a number below 0 is ErrArg, one above MaxWords ErrLong; beside them is no memory.
func TestNewErrors(t *testing.T) {
	cases := []struct {
		n    int
		want api.Errno
	}{
		{-1, api.ErrArg}, {-2, api.ErrArg}, {-cell.MaxWords - 1, api.ErrArg}, {math.MinInt, api.ErrArg},
		{cell.MaxWords + 1, api.ErrLong}, {cell.MaxWords * 2, api.ErrLong}, {1 << 32, api.ErrLong}, {math.MaxInt, api.ErrLong},
	}
	for _, x := range cases {
		if m, e := cell.New(x.n); m != nil || e != x.want {
			t.Errorf("New(%d): %v, %v, want %v", x.n, m, e, x.want)
		}
	}
}

// Promise 3.1: Of is a memory of those words; nil and empty lists are the same.
func TestOf(t *testing.T) {
	for _, l := range [][]uint64{{7}, {0, 1 << 32, math.MaxUint64}, {}, nil} {
		m, e := cell.Of(l)
		if e != api.OK || m == nil {
			t.Fatalf("Of(%v): %v", l, e)
		}
		check(t, m, state{words: l})
	}
}

// Promise 3.1: Of as many words as may be, and of one more.
func TestOfMany(t *testing.T) {
	l := make([]uint64, cell.MaxWords)
	l[0], l[cell.MaxWords-1] = 4, 5
	m, e := cell.Of(l)
	if e != api.OK || m == nil || !slices.Equal(m.Words(), l) {
		t.Errorf("Of MaxWords: %v", e)
	}
	if m, e := cell.Of(make([]uint64, cell.MaxWords+1)); m != nil || e != api.ErrLong {
		t.Errorf("Of one more: %v", e)
	}
}

// Promise 3.1, R3: Of copies the words, and the memory does not change the list.
func TestOfCopies(t *testing.T) {
	l := []uint64{1, 2, 3}
	a, b := of(t, l...), of(t, l...)
	l[1] = 77
	check(t, a, state{words: []uint64{1, 2, 3}})
	a.Store(0, 0, 9)
	if !slices.Equal(l, []uint64{1, 77, 3}) {
		t.Errorf("the list was changed: %v", l)
	}
	check(t, b, state{words: []uint64{1, 2, 3}})
}

// Promise 3.3, R3: Words is a copy, of its own at each call.
func TestWordsCopies(t *testing.T) {
	m := of(t, 1, 2, 3)
	l := m.Words()
	l[0] = 9
	l = append(l[:1], 8, 7, 6)
	check(t, m, state{words: []uint64{1, 2, 3}})
	before := m.Words()
	m.Store(0, 2, 5)
	if !slices.Equal(before, []uint64{1, 2, 3}) || l[0] != 9 {
		t.Errorf("what was answered has changed: %v", before)
	}
}

// Promises 3.2 and 3.3: Load tells the word, and changes none.
func TestLoad(t *testing.T) {
	l := []uint64{5, 0, math.MaxUint64}
	m := of(t, l...)
	for at, w := range l {
		if got := m.Load(at+3, at); got != w {
			t.Errorf("Load of %d: %d, want %d", at, got, w)
		}
		check(t, m, state{l, at + 1, 0, api.Access{Kind: api.AcLoad, Who: at + 3, At: at, Old: w, Done: true}})
	}
}

// Promises 3.2 and 3.3: Store puts the whole word.
func TestStore(t *testing.T) {
	m := of(t, 5, 6)
	m.Store(7, 1, math.MaxUint64)
	check(t, m, state{[]uint64{5, math.MaxUint64}, 1, 0, api.Access{Kind: api.AcStore, Who: 7, At: 1, Old: 6, New: math.MaxUint64, Done: true}})
	m.Store(8, 1, 1<<32)
	check(t, m, state{[]uint64{5, 1 << 32}, 2, 0, api.Access{Kind: api.AcStore, Who: 8, At: 1, Old: math.MaxUint64, New: 1 << 32, Done: true}})
	m.Store(8, 0, 5)
	check(t, m, state{[]uint64{5, 1 << 32}, 3, 0, api.Access{Kind: api.AcStore, Who: 8, At: 0, Old: 5, New: 5, Done: true}})
}

// Promises 3.2 and 3.3: Swap is done where the whole word is Old, and nowhere else.
func TestSwap(t *testing.T) {
	cases := []struct {
		was, old, w uint64
		done        bool
	}{
		{5, 5, 9, true}, {5, 4, 9, false}, {5, 9, 5, false}, {0, 0, 0, true}, {0, 1, 0, false},
		{1<<32 + 5, 5, 9, false}, {5, 1<<32 + 5, 9, false}, {1<<32 + 5, 1<<32 + 5, 1 << 33, true},
		{math.MaxUint64, math.MaxUint64, 0, true}, {math.MaxUint64, math.MaxUint32, 0, false}, {7, 7, 7, true},
	}
	for _, x := range cases {
		m := of(t, 1, x.was)
		if got := m.Swap(4, 1, x.old, x.w); got != x.done {
			t.Errorf("Swap of %d for %d: %v", x.old, x.was, got)
		}
		behind := x.was
		if x.done {
			behind = x.w
		}
		check(t, m, state{[]uint64{1, behind}, 1, 0, api.Access{Kind: api.AcSwap, Who: 4, At: 1, Old: x.was, New: x.w, Done: x.done}})
	}
}

// Promises 3.2 and 3.3: Add goes round at 2^32, whatever the word and what is added are.
func TestAdd(t *testing.T) {
	const round = 1 << 32
	cases := []struct{ was, w, behind uint64 }{
		{0, 0, 0}, {3, 4, 7}, {0, round - 1, round - 1}, {round - 1, 2, 1}, {round - 1, 1, 0}, {round - 2, 1, round - 1},
		{0, round, 0}, {5, round, 5}, {5, round + 2, 7}, {round, 0, 0}, {round + 7, 0, 7}, {round + 7, 1<<33 + 2, 9},
		{7, round - 1, 6}, {0, math.MaxUint64, round - 1}, {5, math.MaxUint64, 4}, {math.MaxUint64, 1, 0},
		{math.MaxUint64, 0, round - 1}, {math.MaxUint64, math.MaxUint64, round - 2}, {1 << 63, 1<<63 + 3, 3},
	}
	for _, x := range cases {
		m := of(t, 1, x.was)
		if got := m.Add(6, 1, x.w); got != x.behind {
			t.Errorf("Add of %d to %d: %d, want %d", x.w, x.was, got, x.behind)
		}
		check(t, m, state{[]uint64{1, x.behind}, 1, 0, api.Access{Kind: api.AcAdd, Who: 6, At: 1, Old: x.was, New: x.behind, Done: true}})
	}
}

// The chapter's example.
func TestExample(t *testing.T) {
	m, _ := cell.New(1)
	if a, b := m.Add(0, 0, 1<<32-1), m.Add(0, 0, 2); a != 1<<32-1 || b != 1 {
		t.Errorf("%d, %d", a, b)
	}
}

// Promises 3.2 and 3.3: an access of a place that there is not is bad, counts, and changes no word.
func TestBadAccesses(t *testing.T) {
	for _, l := range [][]uint64{nil, {3}, {3, 4, 0}} {
		m := of(t, l...)
		n := 0
		for _, at := range []int{math.MinInt, -2, -1, len(l), len(l) + 1, cell.MaxWords, 1 << 32, math.MaxInt} {
			if got := m.Load(1, at); got != 0 {
				t.Errorf("Load of %d: %d", at, got)
			}
			n++
			check(t, m, state{l, n, n, api.Access{Kind: api.AcLoad, Who: 1, At: at}})
			m.Store(2, at, 9)
			n++
			check(t, m, state{l, n, n, api.Access{Kind: api.AcStore, Who: 2, At: at, New: 9}})
			if m.Swap(3, at, 0, 8) {
				t.Errorf("Swap at %d is done", at)
			}
			n++
			check(t, m, state{l, n, n, api.Access{Kind: api.AcSwap, Who: 3, At: at, New: 8}})
			if got := m.Add(4, at, 1<<32+7); got != 0 {
				t.Errorf("Add at %d: %d", at, got)
			}
			n++
			check(t, m, state{l, n, n, api.Access{Kind: api.AcAdd, Who: 4, At: at, New: 1<<32 + 7}})
		}
	}
}

// Promise 3.3: a good access behind a bad one leaves the count of bad ones as it is; a swap that is not done is not bad.
func TestBadIsKept(t *testing.T) {
	m := of(t, 5)
	m.Load(0, 1)
	m.Load(0, 0)
	check(t, m, state{[]uint64{5}, 2, 1, api.Access{Kind: api.AcLoad, Old: 5, Done: true}})
	m.Swap(0, 0, 6, 7)
	check(t, m, state{[]uint64{5}, 3, 1, api.Access{Kind: api.AcSwap, Old: 5, New: 7}})
}

// Promise 3.2: who does an access is kept as it is, whatever the number.
func TestWhoIsKept(t *testing.T) {
	m := of(t, 5)
	for _, who := range []int{math.MinInt, api.None, 0, api.MaxThreads, math.MaxInt} {
		m.Load(who, 0)
		if got := m.Last().Who; got != who {
			t.Errorf("Load by %d: %d", who, got)
		}
		m.Store(who, 0, 5)
		if got := m.Last().Who; got != who {
			t.Errorf("Store by %d: %d", who, got)
		}
		m.Swap(who, 7, 5, 5)
		if got := m.Last().Who; got != who {
			t.Errorf("Swap by %d: %d", who, got)
		}
		m.Add(who, 0, 0)
		if got := m.Last().Who; got != who {
			t.Errorf("Add by %d: %d", who, got)
		}
	}
}

// Promise 3.3: looking is no access.
func TestLookingIsNoAccess(t *testing.T) {
	m := of(t, 5, 6)
	m.Swap(2, 0, 5, 7)
	m.Store(2, 9, 1)
	want := state{[]uint64{7, 6}, 2, 1, api.Access{Kind: api.AcStore, Who: 2, At: 9, New: 1}}
	for range 3 {
		check(t, m, want)
	}
}

// Promises 3.1 to 3.3: memories share nothing.
func TestMemoriesApart(t *testing.T) {
	a, _ := cell.New(2)
	b, _ := cell.New(2)
	a.Store(1, 0, 4)
	a.Load(1, 7)
	check(t, b, state{words: []uint64{0, 0}})
	b.Add(2, 1, 6)
	check(t, a, state{[]uint64{4, 0}, 2, 1, api.Access{Kind: api.AcLoad, Who: 1, At: 7}})
}

// Promise 3.4: of swaps from what is there, to others, just the first is done.
func TestFirstSwapWins(t *testing.T) {
	for _, was := range []uint64{0, 7, 1 << 32, math.MaxUint64} {
		m := of(t, was)
		for who := range 100 {
			if got := m.Swap(who, 0, was, was+1+uint64(who)); got != (who == 0) {
				t.Errorf("from %d, swap %d: %v", was, who, got)
			}
		}
		if w, _ := m.Peek(0); w != was+1 {
			t.Errorf("from %d: %d", was, w)
		}
	}
}

// The promises of no memory: nothing is done, and nothing told.
func TestNoMemory(t *testing.T) {
	var none *cell.Mem
	for _, at := range []int{math.MinInt, -1, 0, 1, math.MaxInt} {
		none.Store(1, at, 5)
		if none.Load(1, at) != 0 || none.Swap(1, at, 0, 0) || none.Swap(1, at, 0, 1) || none.Add(1, at, 1) != 0 {
			t.Errorf("an access of no memory, at %d", at)
		}
		if w, is := none.Peek(at); w != 0 || is {
			t.Errorf("Peek of no memory, at %d", at)
		}
	}
	check(t, none, state{})
}

// A memory that New or Of did not make is one of 0 words.
func TestBareMemory(t *testing.T) {
	m := &cell.Mem{}
	check(t, m, state{})
	if m.Add(1, 0, 5) != 0 {
		t.Errorf("Add")
	}
	check(t, m, state{nil, 1, 1, api.Access{Kind: api.AcAdd, Who: 1, New: 5}})
}
