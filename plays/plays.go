// Package plays is no layer: it makes up configs, programs, draws and scripts for worlds. Tests alone use it.
package plays

import (
	"turnspit/api"
)

const (
	entries = 100 // of so many entries weights say how often there is what
	longest = 600 // entries of a phase
	parting = 7   // the word that parts programs
	codes   = 8   // an instruction's Arg is counted in these
	oftener = 8   // how much oftener one kind of instructions comes than another one at most
)

// Roll is what makes up: of one seed always the same.
type Roll struct {
	state uint64
}

// New is a roll of a seed.
func New(seed uint64) *Roll {
	return &Roll{state: seed}
}

// Below is a number below n.
func (r *Roll) Below(n int) int {
	r.state = r.state*6364136223846793005 + 1442695040888963407
	return int(r.state >> 33 % uint64(n))
}

// Config is a config, at most so large.
func (r *Roll) Config(most api.Config) api.Config {
	procs := 1 + r.Below(most.Procs)
	return api.Config{Procs: procs, Threads: procs + r.Below(most.Threads-procs+1), Gs: 1 + r.Below(most.Gs)}
}

// Words are the words of some programs, each of a few instructions; which kinds there are often, and which seldom, is made up for all of them. Each ends by spawning others, so that it goes on for long.
func (r *Roll) Words() []uint64 {
	var kinds []uint64
	for kind := uint64(api.InCompute); kind <= api.InSyscall; kind++ {
		for range 1 + r.Below(oftener) {
			kinds = append(kinds, kind)
		}
	}
	var words []uint64
	for n := r.Below(5); n >= 0; n-- {
		for range r.Below(12) {
			words = append(words, kinds[r.Below(len(kinds))]+codes*uint64(r.Below(12)))
		}
		for range 1 + r.Below(3) {
			words = append(words, api.InSpawn+codes*uint64(r.Below(9)))
		}
		if n > 0 {
			words = append(words, parting)
		}
	}
	return words
}

// Draws are some draws.
func (r *Roll) Draws() []uint64 {
	var draws []uint64
	for range r.Below(300) {
		draws = append(draws, uint64(r.Below(1<<30)))
	}
	return draws
}

// weights are how often, of 100 entries, a thread does a step, the monitor does one, and the clock goes on; else a call returns.
type weights struct{ step, mon, tick int }

// Script is a script without an end, phase by phase: in each some threads, or all, go on, and the monitor, the clock and calls go on fast or slowly.
type Script struct {
	roll    *Roll
	threads int
	left    int // entries of the phase
	weights weights
	on      []int // threads that go on
}

// NewScript is a script for a world of so many threads.
func (r *Roll) NewScript(threads int) *Script {
	return &Script{roll: r, threads: threads}
}

// Next is the next entry.
func (s *Script) Next() api.Entry {
	if s.left == 0 {
		s.turn()
	}
	s.left--
	w := s.weights
	switch n := s.roll.Below(entries); {
	case n < w.step:
		return api.Entry{Kind: api.EnStep, Who: s.on[s.roll.Below(len(s.on))]}
	case n < w.step+w.mon:
		return api.Entry{Kind: api.EnMon}
	case n < w.step+w.mon+w.tick:
		return api.Entry{Kind: api.EnTick}
	}
	return api.Entry{Kind: api.EnReturn, Who: s.roll.Below(s.threads)}
}

// turn begins another phase.
func (s *Script) turn() {
	r := s.roll
	kinds := [...]weights{{70, 16, 6}, {40, 50, 8}, {60, 30, 9}, {88, 4, 4}, {50, 20, 28}, {97, 2, 0}, {100, 0, 0}, {80, 0, 0}}
	s.weights, s.left, s.on = kinds[r.Below(len(kinds))], 1+r.Below(longest), nil
	few := r.Below(4)
	for t := range s.threads {
		if few < 2 || r.Below(few) == 0 {
			s.on = append(s.on, t)
		}
	}
	if s.on == nil {
		s.on = []int{r.Below(s.threads)}
	}
}
