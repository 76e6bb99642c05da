// Package draw is layer 02: draws that run out; see shared/doc/02-draw.md.
package draw

import (
	"slices"

	"turnspit/api"
)

// Cursor is a list, and how many of it were told.
type Cursor struct {
	left []uint64 // what of the list was not told
	told int      // noughts behind the end, too
}

// New is a cursor of a copy of a list, of which nothing was told.
func New(l []uint64) *Cursor {
	return &Cursor{left: slices.Clone(l)}
}

// Next is the next word: 0, where the list has ended.
func (c *Cursor) Next() uint64 {
	if c == nil {
		return 0
	}
	w := at(c.left, 0)
	c.pass(1)
	return w
}

// Below is what the next word leaves by a number; by one below 1 nothing is told.
func (c *Cursor) Below(n int) int {
	if n < 1 {
		return 0
	}
	return int(c.Next() % uint64(n))
}

// Left is how many words of the list were not told.
func (c *Cursor) Left() int {
	if c == nil {
		return 0
	}
	return len(c.left)
}

// Told is how many words were told, those behind the end too.
func (c *Cursor) Told() int {
	if c == nil {
		return 0
	}
	return c.told
}

// Peek is a word that is not told yet: 0 is the next one's place.
func (c *Cursor) Peek(i int) uint64 {
	if c == nil {
		return 0
	}
	return at(c.left, i)
}

// Skip tells words of the list to nobody.
func (c *Cursor) Skip(n int) api.Errno {
	if c == nil {
		return api.ErrArg
	}
	if n < 0 || n > len(c.left) {
		return api.ErrRange
	}
	c.pass(n)
	return api.OK
}

// pass counts words as told.
func (c *Cursor) pass(n int) {
	c.left = c.left[min(n, len(c.left)):]
	c.told += n
}

// at is an item of a list, and a zero value before and behind it.
func at[T any](l []T, i int) T {
	if i < 0 || i >= len(l) {
		var none T
		return none
	}
	return l[i]
}
