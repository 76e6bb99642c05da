package word_test

import (
	"math"
	"slices"
	"testing"

	"turnspit/api"
	"turnspit/word"
)

// bitsSlowly are bits of a word, looked at one by one.
func bitsSlowly(w uint64, from, many int) uint64 {
	if from < 0 || from > 63 || many < 0 || many > 64 {
		return 0
	}
	var got uint64
	for i := range many {
		if from+i < 64 && w/(1<<(from+i))%2 == 1 {
			got += 1 << i
		}
	}
	return got
}

// Promise 1.1: Bits, at all places and numbers, and beyond their limits.
func TestBits(t *testing.T) {
	for _, w := range []uint64{0, 1, 0xabcd, 1 << 63, 0x0123456789abcdef, 0xfedcba9876543210, math.MaxUint64} {
		for from := -2; from <= 66; from++ {
			for many := -2; many <= 67; many++ {
				if got, want := word.Bits(w, from, many), bitsSlowly(w, from, many); got != want {
					t.Fatalf("Bits(%#x, %d, %d): %#x, want %#x", w, from, many, got, want)
				}
			}
		}
	}
}

// Promise 1.1, R1: Bits far beyond the limits.
func TestBitsFarBeyond(t *testing.T) {
	far := []int{math.MinInt, math.MinInt32, -1, 65, 1 << 32, math.MaxInt}
	for _, x := range far {
		if got := word.Bits(math.MaxUint64, x, 3); got != 0 {
			t.Errorf("Bits from %d on: %d", x, got)
		}
		if got := word.Bits(math.MaxUint64, 3, x); got != 0 {
			t.Errorf("%d Bits: %d", x, got)
		}
		if got := word.Bits(math.MaxUint64, x, x); got != 0 {
			t.Errorf("%d Bits from there on: %d", x, got)
		}
	}
}

// Promise 1.1: each code has its kind.
func TestReadCodes(t *testing.T) {
	want := []api.Entry{
		{Kind: api.EnStep, Who: 2}, {Kind: api.EnStep, Who: 2}, {Kind: api.EnStep, Who: 2}, {Kind: api.EnStep, Who: 2},
		{Kind: api.EnMon}, {Kind: api.EnTick}, {Kind: api.EnReturn, Who: 2}, {Kind: api.EnMon},
	}
	for code, e := range want {
		if got := word.Read(uint64(16+code), 3); got != e {
			t.Errorf("code %d: %v, want %v", code, got, e)
		}
	}
}

// Promise 1.1: Who is what all other bits leave by the number of threads.
func TestReadWho(t *testing.T) {
	cases := []struct {
		rest    uint64
		threads int
		who     int
	}{
		{0, 1, 0}, {5, 1, 0}, {5, 5, 0}, {6, 5, 1}, {255, 256, 255}, {256, 256, 0}, {257, 256, 1},
		{7, 0, 0}, {7, -1, 0}, {7, math.MinInt, 0},
		{300, 257, 44}, {300, 1000, 44}, {300, math.MaxInt, 44},
		{1<<61 - 1, 2, 1}, {1<<61 - 1, 10, 1}, {1<<61 - 1, 256, 255}, {1<<61 - 1, 255, 31}, {1 << 60, 7, 1},
	}
	for _, c := range cases {
		for code, kind := range map[uint64]int{1: api.EnStep, 6: api.EnReturn} {
			if got, want := word.Read(c.rest<<3+code, c.threads), (api.Entry{Kind: kind, Who: c.who}); got != want {
				t.Errorf("Read of %d, code %d, %d threads: %v, want %v", c.rest, code, c.threads, got, want)
			}
		}
	}
}

// The chapter's example.
func TestReadExample(t *testing.T) {
	for w, want := range map[uint64]api.Entry{17: {Kind: api.EnStep, Who: 2}, 22: {Kind: api.EnReturn, Who: 2}, 5: {Kind: api.EnTick}} {
		if got := word.Read(w, 3); got != want {
			t.Errorf("Read(%d): %v, want %v", w, got, want)
		}
	}
}

// Promise 1.1: All are the entries of each word, in order.
func TestAll(t *testing.T) {
	var words []uint64
	for w := range uint64(40) {
		words = append(words, w*w*w, math.MaxUint64-w)
	}
	for _, threads := range []int{-1, 0, 1, 3, 256, 257} {
		got := word.All(words, threads)
		if len(got) != len(words) {
			t.Fatalf("%d threads: %d entries of %d words", threads, len(got), len(words))
		}
		for i, w := range words {
			if got[i] != word.Read(w, threads) {
				t.Errorf("%d threads, entry %d: %v", threads, i, got[i])
			}
		}
	}
}

// Promise 1.1, R3: of no words there are no entries, nil or empty.
func TestAllOfNone(t *testing.T) {
	if a, b := word.All(nil, 3), word.All([]uint64{}, 3); len(a) != 0 || len(b) != 0 {
		t.Errorf("All of none: %v, %v", a, b)
	}
}

// R3: All changes no argument, and answers new memory.
func TestAllKeepsNothing(t *testing.T) {
	words := []uint64{17, 5, 22}
	first := word.All(words, 3)
	if !slices.Equal(words, []uint64{17, 5, 22}) {
		t.Errorf("the words were changed: %v", words)
	}
	first[0] = api.Entry{}
	words[1] = 0
	if got, want := word.All([]uint64{17, 5, 22}, 3), (api.Entry{Kind: api.EnStep, Who: 2}); got[0] != want {
		t.Errorf("All anew: %v", got)
	}
	if first[1].Kind != api.EnTick {
		t.Errorf("an answer follows its argument: %v", first)
	}
}

// leastWords are the least words by their entries, of so many threads.
func leastWords(threads int) map[api.Entry]uint64 {
	least := map[api.Entry]uint64{}
	for w := range uint64(8 * 300) {
		e := word.Read(w, threads)
		if _, is := least[e]; !is {
			least[e] = w
		}
	}
	return least
}

// Promise 1.2: Write answers the least word, or the error that comes first.
func TestWrite(t *testing.T) {
	least := leastWords(256)
	if len(least) != 256+1+1+256 {
		t.Fatalf("%d entries", len(least))
	}
	for kind := -2; kind <= 9; kind++ {
		for who := -3; who <= 520; who++ {
			e := api.Entry{Kind: kind, Who: who}
			w, f := word.Write(e)
			want, is := least[e]
			wantErr := api.OK
			if kind < 1 || kind > 4 {
				wantErr = api.ErrArg
			} else if !is {
				wantErr = api.ErrRange
			}
			if w != want || f != wantErr {
				t.Fatalf("Write(%v): %d, %v, want %d, %v", e, w, f, want, wantErr)
			}
		}
	}
}

// Promise 1.2, R1, R2: wrong entries; a Kind that is none is told ahead of a Who that is out of range.
func TestWriteWrong(t *testing.T) {
	for _, who := range []int{math.MinInt, -1, 0, 1, 256, math.MaxInt} {
		for _, kind := range []int{math.MinInt, -1, 0, 5, math.MaxInt} {
			if w, f := word.Write(api.Entry{Kind: kind, Who: who}); w != 0 || f != api.ErrArg {
				t.Errorf("Write of kind %d, who %d: %d, %v", kind, who, w, f)
			}
		}
	}
	for kind := api.EnStep; kind <= api.EnReturn; kind++ {
		for _, who := range []int{math.MinInt, -1 << 32, -1, 256, 1 << 32, math.MaxInt} {
			if w, f := word.Write(api.Entry{Kind: kind, Who: who}); w != 0 || f != api.ErrRange {
				t.Errorf("Write of kind %d, who %d: %d, %v", kind, who, w, f)
			}
		}
	}
}

// Promise 1.2: Right holds of the entries of words, and of no others.
func TestRight(t *testing.T) {
	for _, threads := range []int{-1, 0, 1, 2, 3, 100, 255, 256, 257, 1000} {
		least := leastWords(threads)
		for kind := -2; kind <= 9; kind++ {
			for who := -3; who <= 300; who++ {
				e := api.Entry{Kind: kind, Who: who}
				if _, want := least[e]; word.Right(e, threads) != want {
					t.Fatalf("Right(%v, %d): %v", e, threads, !want)
				}
			}
		}
	}
}

// Promise 1.2, R1: Right, and numbers of threads, far beyond.
func TestRightFarBeyond(t *testing.T) {
	far := []int{math.MinInt, -1 << 32, 1 << 32, math.MaxInt}
	for _, x := range far {
		for kind := api.EnStep; kind <= api.EnReturn; kind++ {
			if word.Right(api.Entry{Kind: kind, Who: x}, 256) || word.Right(api.Entry{Kind: kind, Who: x}, x) {
				t.Errorf("Right of kind %d, who %d", kind, x)
			}
		}
		if word.Right(api.Entry{Kind: x}, 256) {
			t.Errorf("Right of kind %d", x)
		}
	}
	last, behind := api.Entry{Kind: api.EnReturn, Who: 255}, api.Entry{Kind: api.EnReturn, Who: 256}
	if !word.Right(last, math.MaxInt) || word.Right(behind, math.MaxInt) {
		t.Errorf("Right of more than 256 threads")
	}
	if !word.Right(api.Entry{Kind: api.EnStep}, math.MinInt) || word.Right(api.Entry{Kind: api.EnStep, Who: 1}, math.MinInt) {
		t.Errorf("Right of less than 1 thread")
	}
}

// Promise 1.2: Count tells each kind, and those of none; Who does not matter.
func TestCount(t *testing.T) {
	cases := []struct {
		l    []api.Entry
		want [5]int
	}{
		{nil, [5]int{}},
		{[]api.Entry{}, [5]int{}},
		{[]api.Entry{{Kind: api.EnStep}}, [5]int{0, 1, 0, 0, 0}},
		{[]api.Entry{{Kind: api.EnMon}}, [5]int{0, 0, 1, 0, 0}},
		{[]api.Entry{{Kind: api.EnTick}}, [5]int{0, 0, 0, 1, 0}},
		{[]api.Entry{{Kind: api.EnReturn}}, [5]int{0, 0, 0, 0, 1}},
		{[]api.Entry{{}, {Kind: -1}, {Kind: 5}, {Kind: math.MinInt}, {Kind: math.MaxInt}}, [5]int{5, 0, 0, 0, 0}},
		{[]api.Entry{{Kind: api.EnStep, Who: 999}, {Kind: api.EnMon, Who: 7}, {Kind: api.EnTick, Who: -7}, {Kind: api.EnReturn, Who: -1}, {Kind: api.EnStep, Who: -1}}, [5]int{0, 2, 1, 1, 1}},
	}
	for _, c := range cases {
		before := slices.Clone(c.l)
		if got := word.Count(c.l); got != c.want {
			t.Errorf("Count(%v): %v, want %v", c.l, got, c.want)
		}
		if !slices.Equal(c.l, before) {
			t.Errorf("Count changed its argument: %v", c.l)
		}
	}
}

// someWords are words of all codes, with bits in low and in high places.
func someWords() []uint64 {
	var words []uint64
	w := uint64(1)
	for i := range uint64(3000) {
		w = w*6364136223846793005 + 1442695040888963407
		words = append(words, w, i, math.MaxUint64-i, w>>32)
	}
	return words
}

// Promise 1.3: each word has an entry that is right.
func TestEachWordIsRight(t *testing.T) {
	for _, w := range someWords() {
		for _, threads := range []int{math.MinInt, 0, 1, 2, 7, 64, 255, 256, 257, math.MaxInt} {
			if e := word.Read(w, threads); !word.Right(e, threads) {
				t.Fatalf("Read(%d, %d): %v", w, threads, e)
			}
		}
	}
}

// Promise 1.3: what is written is read as it was.
func TestWrittenIsRead(t *testing.T) {
	for kind := api.EnStep; kind <= api.EnReturn; kind++ {
		for who := range 256 {
			e := api.Entry{Kind: kind, Who: who}
			if w, f := word.Write(e); f == api.OK && word.Read(w, 256) != e {
				t.Errorf("%v is written %d, and read %v", e, w, word.Read(w, 256))
			} else if (f == api.OK) != word.Right(e, 256) {
				t.Errorf("Write(%v): %v", e, f)
			}
		}
	}
	for _, w := range someWords() {
		if got, f := word.Write(word.Read(w, 256)); f != api.OK || word.Read(got, 256) != word.Read(w, 256) || got > w {
			t.Fatalf("%d is read, and written %d, %v", w, got, f)
		}
	}
}

// R4: Who is zero where the entry has none.
func TestNoWho(t *testing.T) {
	for _, w := range someWords() {
		if e := word.Read(w, 256); (e.Kind == api.EnMon || e.Kind == api.EnTick) && e.Who != 0 {
			t.Fatalf("Read(%d): %v", w, e)
		}
	}
}
