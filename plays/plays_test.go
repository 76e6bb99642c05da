package plays

import (
	"slices"
	"testing"

	"turnspit/api"
	"turnspit/code"
	"turnspit/layout"
	"turnspit/word"
)

// all are a config, words, draws and entries that a roll of a seed makes up.
func all(seed uint64) (api.Config, []uint64, []uint64, []api.Entry) {
	r := New(seed)
	c := r.Config(api.Config{Procs: 3, Threads: 7, Gs: 20})
	words, draws := r.Words(), r.Draws()
	s := r.NewScript(c.Threads)
	var entries []api.Entry
	for range 5000 {
		entries = append(entries, s.Next())
	}
	return c, words, draws, entries
}

// What is made up may be, is the same of one seed, and has all that there is.
func TestMadeUp(t *testing.T) {
	configs, kinds, entries := map[api.Config]int{}, map[int]int{}, map[api.Entry]int{}
	for seed := range uint64(200) {
		c, words, draws, script := all(seed)
		again, words2, draws2, script2 := all(seed)
		if c != again || !slices.Equal(words, words2) || !slices.Equal(draws, draws2) || !slices.Equal(script, script2) {
			t.Errorf("seed %d: made up unlike", seed)
		}
		if !layout.Right(c) || c.Procs > 3 || c.Threads > 7 || c.Gs > 20 {
			t.Errorf("seed %d: %v", seed, c)
		}
		configs[c]++
		programs := code.Read(words)
		for p := range programs.Len() {
			for _, i := range programs.All(p) {
				kinds[i.Kind]++
			}
		}
		for _, e := range script {
			if !word.Right(e, c.Threads) {
				t.Errorf("seed %d: %v", seed, e)
			}
			entries[e]++
		}
	}
	for kind := api.InCompute; kind <= api.InSyscall; kind++ {
		if kinds[kind] < 50 {
			t.Errorf("instructions of the kind %d: %d", kind, kinds[kind])
		}
	}
	if len(configs) < 50 || len(entries) != 2*7+2 {
		t.Errorf("%d configs, %d unlike entries", len(configs), len(entries))
	}
}
