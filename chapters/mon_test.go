package chapters

import (
	"slices"
	"testing"

	"turnspit/acts"
	"turnspit/api"
	"turnspit/cell"
	"turnspit/layout"
	"turnspit/mon"
	"turnspit/ring"
)

// watch is a monitor, read line by line: what it tells besides.
type watch struct {
	*reader
	between bool
	passes  int
	rows    []mon.Row
	now     uint64
	paths   map[string]int
}

// goesOn is a pass behind the other.
func (s *watch) goesOn() {
	for {
		s.between = true
		s.now = s.word(layout.Now)
		s.between = false
		for p := range s.rows {
			s.paths[s.looksAfter(p)]++
		}
		s.passes++
	}
}

// proc loads one of a processor's words.
func (s *watch) proc(p, field int) uint64 { return s.load(s.l.Proc(p, field)) }

// lie tells how many ticks lie between.
func (s *watch) lie(when uint64) uint64 { return (s.now - when) % (1 << 32) }

// looksAfter is what a pass does for a processor: how it went.
func (s *watch) looksAfter(p int) string {
	row := &s.rows[p]
	status := s.proc(p, layout.Status)
	if status != 1 && status != 2 {
		return "idle"
	}
	turns, path, late := s.proc(p, layout.Turns), "early", false
	if turns != row.Turns {
		row.Turns, row.When, path = turns, s.now, "turn"
	} else if s.lie(row.When) >= 10 {
		s.store(s.l.Proc(p, layout.Preempt), 1)
		path, late = "late", true
	}
	if status == 1 {
		return path
	}
	calls := s.proc(p, layout.Calls)
	if !late && calls != row.Calls {
		row.Calls, row.Since = calls, s.now
		return path + ", call"
	}
	look := ring.New(s.l, s.t, p)
	s.do(look)
	if look.Empty() {
		spinning, idle := s.word(layout.Spinning), s.word(layout.IdlePs)
		if (spinning != 0 || idle != 0) && s.lie(row.Since) < 10 {
			return path + ", others"
		}
	}
	if !s.spare() {
		return path + ", no thread"
	}
	if !s.swap(s.l.Proc(p, layout.Status), 2, 0) {
		return path + ", came out"
	}
	s.is.p, s.gotten = p, nil
	s.add(s.l.Proc(p, layout.Calls))
	s.handsOver(p)
	return path + ", handed over"
}

// spare tells whether there are threads to be had for a processor.
func (s *watch) spare() bool {
	s.lock()
	idle, had, procs := s.word(layout.IdleMs), s.word(layout.Threads), s.word(layout.IdlePs)
	s.unlock()
	if idle >= 1<<31 || had >= 1<<31 || procs >= 1<<31 {
		return false
	}
	return s.l.Config().Threads+int(idle)-int(had) > int(procs)
}

// holdMon holds a monitor against the chapter, step by step.
func holdMon(t *testing.T, e *env, paths map[string]int) {
	t.Helper()
	c := e.l.Config()
	x, often := mon.New(e.l), 1+e.below(1+e.below(60))
	s := &watch{rows: make([]mon.Row, c.Procs), paths: paths}
	s.reader = open(e.l, nil, c.Threads, 0, func(r *reader) {
		s.reader = r
		s.goesOn()
	})
	defer s.stop()
	for n := range 400 {
		if e.below(often) == 0 {
			e.stores()
		}
		if is, want := x.Between(), s.between; is != want || x.Step(e.a) || s.step(e.b) || e.a.Clock() != e.b.Clock() || e.a.Last() != e.b.Last() {
			t.Fatalf("step %d: %v, between %v, want %v, %v", n, e.a.Last(), is, e.b.Last(), want)
		}
		is := s.look()
		if x.Hand() != is.p || x.Counts() != is.counts || x.Passes() != s.passes {
			t.Fatalf("step %d: Hand %d, Counts %v, Passes %d, want %v, %d", n, x.Hand(), x.Counts(), x.Passes(), is, s.passes)
		}
		for p := -1; p <= c.Procs; p++ {
			want := mon.Row{}
			if p >= 0 && p < c.Procs {
				want = s.rows[p]
			}
			if x.Row(p) != want {
				t.Fatalf("step %d: Row(%d) %v, want %v", n, p, x.Row(p), want)
			}
		}
	}
	if !slices.Equal(e.a.Words(), e.b.Words()) {
		t.Fatalf("words part")
	}
}

// Promises 26.1 and 26.2: the monitor, line by line, whatever others store between any two steps.
func TestMon(t *testing.T) {
	paths := map[string]int{}
	for seed := range 4000 {
		l, m := acts.Lay(t, api.Config{Procs: 1 + seed%3, Threads: 6, Gs: 3})
		other, _ := cell.Of(m.Words())
		e := &env{l: l, a: m, b: other, roll: uint64(seed)}
		e.also = func() { storesMore(e) }
		for range e.below(12) {
			e.stores()
		}
		holdMon(t, e, paths)
		if t.Failed() {
			t.Fatalf("seed %d", seed)
		}
	}
	want := []string{"idle"}
	for _, path := range []string{"early", "turn", "late"} {
		want = append(want, path)
		for _, end := range []string{"call", "others", "no thread", "came out", "handed over"} {
			if path != "late" || end != "call" {
				want = append(want, path+", "+end)
			}
		}
	}
	for _, path := range want {
		if paths[path] < 20 {
			t.Errorf("%s: %d times", path, paths[path])
		}
	}
	if len(paths) != len(want) {
		t.Errorf("ways: %v", paths)
	}
}
