// Package lines has what layers share that read text line by line.
package lines

import (
	"strings"
)

// Each hands the lines of a text to a function, each without its line feed, as long as that says that they may be; false: one may not be, or the last one has no line feed.
func Each(text string, may func(line string) bool) bool {
	for line := range strings.Lines(text) {
		line, whole := strings.CutSuffix(line, "\n")
		if !whole || !may(line) {
			return false
		}
	}
	return true
}
