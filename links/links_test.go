package links_test

import (
	"math"
	"slices"
	"testing"

	"turnspit/api"
	"turnspit/cell"
	"turnspit/links"
)

// many is how many numbers there may be.
const many = 4

// link is the place of the word behind a number; of the last one there is none.
func link(n int) int {
	if n >= many-1 {
		return api.None
	}
	return n + 1
}

// lists holds a list against what it should be; to look at it is no access.
func lists(t *testing.T, words []uint64, first int, right bool, want ...int) {
	t.Helper()
	m, _ := cell.Of(words)
	if got, is := links.List(m, first, many, link); is != right || !slices.Equal(got, want) {
		t.Errorf("%v from %d on: %v, %v, want %v, %v", words, first, got, is, want, right)
	}
	if m.Clock() != 0 {
		t.Errorf("%d accesses", m.Clock())
	}
}

// A list goes from word to word, until one is 0, or there is no word.
func TestList(t *testing.T) {
	lists(t, []uint64{0, 2, 3, 1}, 0, true)
	lists(t, []uint64{1, 0, 9, 9}, 0, true, 0)
	lists(t, []uint64{3, 2, 0, 1}, 0, true, 2, 0, 1)
	lists(t, []uint64{4, 9, 9, 9}, 0, true, 3)
	lists(t, []uint64{9, 2, 4, 0}, 1, true, 1, 3)
	lists(t, []uint64{3, 0}, 0, true, 2)
	lists(t, []uint64{1, 2}, api.None, true)
	lists(t, nil, 0, true)
}

// A list that comes to a number twice may not be; each one ahead is told once.
func TestCircle(t *testing.T) {
	lists(t, []uint64{1, 1}, 0, false, 0)
	lists(t, []uint64{2, 3, 1, 2}, 0, false, 1, 0, 2)
	lists(t, []uint64{1, 2, 3, 2}, 0, false, 0, 1, 2)
}

// A list that comes to a word which is no number may not be.
func TestNoNumber(t *testing.T) {
	for _, w := range []uint64{many + 1, many + 2, 1 << 32, 1<<32 + 1, 1 << 63, 1<<63 + 1, math.MaxUint64} {
		lists(t, []uint64{w, 0, 0, 0}, 0, false)
		lists(t, []uint64{2, 0, w, 0}, 0, false, 1)
	}
}

// Without a memory a list is empty.
func TestNoMemory(t *testing.T) {
	if got, is := links.List(nil, 0, many, link); len(got) != 0 || !is {
		t.Errorf("%v, %v", got, is)
	}
}
