// Package links has lists that go from word to word of a memory.
package links

import (
	"turnspit/cell"
)

// List are the numbers of a list, in order, and whether it may be: first is the place of its first word, and link tells the place of the word behind a number. A word is a number that is below many, and 1 more; 0 ends the list. One that comes twice, or that there is not, ends it too, and it may not be.
func List(m *cell.Mem, first, many int, link func(n int) int) ([]int, bool) {
	var list []int
	met := map[uint64]struct{}{}
	w, _ := m.Peek(first)
	for w != 0 {
		if _, twice := met[w]; twice || w > uint64(many) {
			return list, false
		}
		met[w] = struct{}{}
		n := int(w - 1)
		list = append(list, n)
		w, _ = m.Peek(link(n))
	}
	return list, true
}
