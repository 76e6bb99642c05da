package lines_test

import (
	"slices"
	"testing"

	"turnspit/lines"
)

// Each line is handed over in order, without its line feed; empty ones, too.
func TestEach(t *testing.T) {
	for _, c := range []struct {
		text string
		want []string
		is   bool
	}{
		{"", nil, true}, {"\n", []string{""}, true}, {"a\n", []string{"a"}, true}, {"a\n\n b \n", []string{"a", "", " b "}, true}, {"\n\n", []string{"", ""}, true}, {"a\r\n", []string{"a\r"}, true},
		{"a", nil, false}, {"a\nb", []string{"a"}, false}, {"\n ", []string{""}, false},
	} {
		var got []string
		is := lines.Each(c.text, func(line string) bool {
			got = append(got, line)
			return true
		})
		if is != c.is || !slices.Equal(got, c.want) {
			t.Errorf("%q: %q, %v, want %q, %v", c.text, got, is, c.want, c.is)
		}
	}
}

// Behind a line that may not be no other one is handed over.
func TestEachUntil(t *testing.T) {
	for n := range 4 {
		var got []string
		is := lines.Each("a\nb\nc\n", func(line string) bool {
			got = append(got, line)
			return len(got) <= n
		})
		if is != (n == 3) || !slices.Equal(got, []string{"a", "b", "c"}[:min(n+1, 3)]) {
			t.Errorf("%d may be: %q, %v", n, got, is)
		}
	}
}
