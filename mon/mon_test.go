package mon_test

import (
	"math"
	"slices"
	"testing"

	"turnspit/acts"
	"turnspit/api"
	"turnspit/cell"
	"turnspit/layout"
	"turnspit/mon"
)

const (
	procs   = 3
	threads = 70 // how many the config has; the monitor is the one behind
	gs      = 9
	round   = 1 << 32
	start   = round - 2 // where rings begin and end at first
)

// nones are no processors.
var nones = []int{math.MinInt, -2, -1, procs, 1 << 32, math.MaxInt}

// still is a monitor, as a machine that is never done.
type still struct{ *mon.Mon }

func (x still) Done() bool { return false }

// seen is what a monitor tells, but its rows.
type seen struct {
	between bool
	passes  int
	hand    int
	counts  bool
}

// trial is a monitor on its way, and what it is to tell from now on.
type trial struct {
	*testing.T
	l    *layout.Layout
	m    *cell.Mem
	x    *mon.Mon
	want seen
	rows [procs]mon.Row
}

// open is a monitor at its beginning, and its memory, whose words are stale, but the scheduler's, and those that it looks at: these are 0; rings are empty, and begin and end just ahead of where they go round, as does the turn at the lock. All threads but four were made.
func open(t *testing.T) *trial {
	t.Helper()
	l, m := acts.Lay(t, api.Config{Procs: procs, Threads: threads, Gs: gs})
	for at := range l.Len() {
		m.Store(99, at, 7)
	}
	for w := layout.GlobHead; w <= layout.Mask; w++ {
		m.Store(99, l.Word(w), 0)
	}
	for p := range procs {
		for field := layout.Status; field <= layout.Preempt; field++ {
			m.Store(99, l.Proc(p, field), 0)
		}
		m.Store(99, l.Proc(p, layout.Head), start)
		m.Store(99, l.Proc(p, layout.Tail), start)
	}
	m.Store(99, l.Ticket(0), round-1)
	m.Store(99, l.Serving(0), round-1)
	m.Store(99, l.Word(layout.Threads), threads-4)
	y := &trial{T: t, l: l, m: m, x: mon.New(l), want: seen{between: true, hand: api.None}}
	y.tells()
	return y
}

// tells holds what it tells against what it is to tell.
func (y *trial) tells() {
	y.Helper()
	for range 2 {
		if got := (seen{y.x.Between(), y.x.Passes(), y.x.Hand(), y.x.Counts()}); got != y.want {
			y.Errorf("told %v, want %v", got, y.want)
		}
		for p, want := range y.rows {
			if got := y.x.Row(p); got != want {
				y.Errorf("Row(%d): %v, want %v", p, got, want)
			}
		}
	}
}

// goes does steps that are to do these accesses.
func (y *trial) goes(list ...acts.Act) {
	y.Helper()
	for i, a := range list {
		acts.Step(y, y.m, still{y.x}, threads, a, false)
		y.tells()
		if y.Failed() {
			y.Fatalf("step %d of %d", i, len(list))
		}
	}
}

// store stores a word by another one.
func (y *trial) store(at int, w uint64) { y.m.Store(99, at, w) }

// word is the place of one of the scheduler's words, proc that of one of a processor's.
func (y *trial) word(w int) int        { return y.l.Word(w) }
func (y *trial) proc(p, field int) int { return y.l.Proc(p, field) }

// is is what stands at a place.
func (y *trial) is(at int) uint64 {
	w, _ := y.m.Peek(at)
	return w
}

// now lets the clock be so far.
func (y *trial) now(w uint64) { y.store(y.word(layout.Now), w) }

// does lets a processor be what it is.
func (y *trial) does(p int, status uint64) { y.store(y.proc(p, layout.Status), status) }

// begins begins a pass.
func (y *trial) begins() {
	y.Helper()
	y.want.between = false
	y.goes(acts.Load(y.word(layout.Now)))
}

// load loads some of a processor's words, none of which is the last one of a pass.
func (y *trial) load(p int, fields ...int) {
	y.Helper()
	for _, field := range fields {
		y.goes(acts.Load(y.proc(p, field)))
	}
}

// last does the last access for a processor: behind the last processor the pass ends.
func (y *trial) last(p int, a acts.Act) {
	y.Helper()
	if p == procs-1 {
		y.want.between = true
		y.want.passes++
	}
	y.goes(a)
}

// idle passes processors that are idle.
func (y *trial) idle(ps ...int) {
	y.Helper()
	for _, p := range ps {
		y.last(p, acts.Load(y.proc(p, layout.Status)))
	}
}

// pass does a pass, and tells how many steps it took.
func (y *trial) pass() int {
	y.Helper()
	was, passes := y.m.Clock(), y.x.Passes()
	for range 500 {
		if y.x.Step(y.m) {
			y.Errorf("a monitor that is done")
		}
		if y.x.Passes() != passes {
			break
		}
	}
	if y.x.Passes() != passes+1 || !y.x.Between() {
		y.Fatalf("a pass does not end: %d, between %v", y.x.Passes(), y.x.Between())
	}
	y.want.passes, y.want.between = y.x.Passes(), true
	for p := range y.rows {
		y.rows[p] = y.x.Row(p)
	}
	return y.m.Clock() - was
}

// The chapter's example: of one processor that is idle a pass is two steps.
func TestExample(t *testing.T) {
	l, m := acts.Lay(t, api.Config{Procs: 1, Threads: 1, Gs: 1})
	x := mon.New(l)
	for n := range 6 {
		if x.Between() != (n%2 == 0) || x.Passes() != n/2 || x.Step(m) || m.Clock() != n+1 || m.Last().Who != 1 {
			t.Errorf("step %d: between %v, passes %d, %v", n, x.Between(), x.Passes(), m.Last())
		}
	}
}

// Monitors that there are not: no one, one that nobody made.
func TestNoMonitor(t *testing.T) {
	l, m := acts.Lay(t, api.Config{Procs: 1, Threads: 1, Gs: 1})
	var none *mon.Mon
	for _, x := range []*mon.Mon{none, {}} {
		for range 3 {
			if !x.Step(m) || !x.Between() || x.Passes() != 0 || x.Hand() != api.None || x.Counts() || m.Clock() != 0 {
				t.Errorf("a monitor that there is not: %v, %d, %d, %v", x.Between(), x.Passes(), x.Hand(), x.Counts())
			}
		}
		for _, p := range append(nones, 0, 1) {
			if x.Row(p) != (mon.Row{}) {
				t.Errorf("Row(%d): %v", p, x.Row(p))
			}
		}
	}
	acts.Changed(t, m, make([]uint64, l.Len()), nil)
}

// Promise 26.2: of a processor that there is not the row is zero; a row that is changed changes nothing.
func TestRows(t *testing.T) {
	y := open(t)
	for p := range procs {
		y.does(p, api.PSyscall)
		y.store(y.proc(p, layout.Turns), uint64(p)+3)
		y.store(y.proc(p, layout.Calls), uint64(p)+40)
	}
	y.now(500)
	y.pass()
	for p := range procs {
		want := mon.Row{Turns: uint64(p) + 3, When: 500, Calls: uint64(p) + 40, Since: 500}
		row := y.x.Row(p)
		if row != want {
			t.Errorf("Row(%d): %v, want %v", p, row, want)
		}
		row.When = 9
		if y.x.Row(p) != want {
			t.Errorf("a row that was changed: %v", y.x.Row(p))
		}
	}
	for _, p := range nones {
		if y.x.Row(p) != (mon.Row{}) {
			t.Errorf("Row(%d): %v", p, y.x.Row(p))
		}
	}
}

// A monitor without a memory, without a layout, and of a memory without words, does not panic.
func TestNoMemoryNoLayoutNoWords(t *testing.T) {
	y := open(t)
	for range 3 {
		y.x.Step(nil)
		y.tells()
	}
	y.begins()
	bare := mon.New(nil)
	empty, _ := cell.New(0)
	for range 60 {
		bare.Step(y.m)
		y.x.Step(empty)
		for _, x := range []*mon.Mon{bare, y.x} {
			x.Between()
			x.Passes()
			x.Row(0)
			x.Hand()
			x.Counts()
		}
	}
	words := slices.Clone(y.m.Words())
	if y.x.Passes() == 0 || y.m.Bad() == 0 {
		t.Errorf("passes %d, bad %d", y.x.Passes(), y.m.Bad())
	}
	acts.Changed(t, y.m, words, nil)
}
