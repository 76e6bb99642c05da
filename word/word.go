// Package word is layer 01: entries of a script as words of 64 bits; see shared/doc/01-word.md.
package word

import (
	"turnspit/api"
)

const (
	wordBits = 64
	codeBits = 3 // the lowest bits of a word are its code, all others tell who
)

// kinds are the kinds of entries, by the words' codes.
var kinds = [1 << codeBits]int{
	api.EnStep, api.EnStep, api.EnStep, api.EnStep,
	api.EnMon, api.EnTick, api.EnReturn, api.EnMon,
}

// Bits are as many bits of a word as are asked for, from a place on.
func Bits(w uint64, from, many int) uint64 {
	if from < 0 || from >= wordBits || many < 0 || many > wordBits {
		return 0
	}
	// 1<<64 is 0, so that 64 bits are masked by all ones.
	return w >> from & (1<<many - 1)
}

// Read is a word's entry, of so many threads.
func Read(w uint64, threads int) api.Entry {
	e := api.Entry{Kind: kinds[Bits(w, 0, codeBits)]}
	if hasWho(e.Kind) {
		rest := Bits(w, codeBits, wordBits-codeBits)
		e.Who = int(rest % uint64(within(threads)))
	}
	return e
}

// All are the entries of words, in order.
func All(words []uint64, threads int) []api.Entry {
	l := make([]api.Entry, 0, len(words))
	for _, w := range words {
		l = append(l, Read(w, threads))
	}
	return l
}

// Write is the least word of an entry, of 256 threads.
func Write(e api.Entry) (uint64, api.Errno) {
	code, is := least(e.Kind)
	if !is {
		return 0, api.ErrArg
	}
	if !fits(e, api.MaxThreads) {
		return 0, api.ErrRange
	}
	return uint64(e.Who)<<codeBits + uint64(code), api.OK
}

// Right tells whether an entry is a word's, of so many threads.
func Right(e api.Entry, threads int) bool {
	_, is := least(e.Kind)
	return is && fits(e, within(threads))
}

// Count is how many entries are of each kind; at 0 those of none.
func Count(l []api.Entry) [5]int {
	var n [5]int
	for _, e := range l {
		if _, is := least(e.Kind); is {
			n[e.Kind]++
		} else {
			n[0]++
		}
	}
	return n
}

// within is the number of threads that a number is taken as.
func within(threads int) int {
	return min(max(threads, 1), api.MaxThreads)
}

// hasWho tells whether entries of a kind say who goes on.
func hasWho(kind int) bool {
	return kind == api.EnStep || kind == api.EnReturn
}

// fits tells whether the Who of an entry may be, of so many threads.
func fits(e api.Entry, threads int) bool {
	if hasWho(e.Kind) {
		return e.Who >= 0 && e.Who < threads
	}
	return e.Who == 0
}

// least is the least code of a kind; false: no code has that kind.
func least(kind int) (int, bool) {
	for code := range len(kinds) {
		if kinds[code] == kind {
			return code, true
		}
	}
	return 0, false
}
