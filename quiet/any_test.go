package quiet_test

import (
	"testing"

	"turnspit/api"
	"turnspit/custody"
	"turnspit/layout"
	"turnspit/plays"
	"turnspit/quiet"
	"turnspit/world"
)

// spoil stores anything anywhere, likely where it is looked at.
func spoil(x *world.World, r *plays.Roll) {
	c, l := x.Config(), x.Layout()
	at := r.Below(x.Mem().Len())
	switch r.Below(4) {
	case 0:
		at = l.Word(layout.GlobHead + r.Below(layout.Mask-layout.GlobHead+1))
	case 1:
		at = l.Proc(r.Below(c.Procs), r.Below(layout.PLink+1))
	case 2:
		at = l.Thread(r.Below(c.Threads), r.Below(layout.MLink+1))
	}
	w := uint64(r.Below(12))
	if r.Below(2) == 0 { // about a power of 2
		w = 1<<r.Below(64) + w%3 - 1
	}
	x.Mem().Store(99, at, w)
}

// Rule 1: whatever others store, worlds go on, and all that is told of them ends; what is fine, and right, is told as the chapters say.
func TestAnyMemory(t *testing.T) {
	for seed := range uint64(150) {
		r := plays.New(seed + 7000)
		c := r.Config(api.Config{Procs: 3, Threads: 6, Gs: 9})
		x, e := world.New(c, r.Words(), r.Draws())
		if e != api.OK {
			t.Fatalf("New: %v", e)
		}
		s := r.NewScript(c.Threads)
		for range 1000 {
			if r.Below(3) == 0 {
				spoil(x, r)
			}
			x.Do(s.Next())
			if quiet.Fine(x) == (quiet.Quiet(x) && quiet.Work(x) && quiet.Room(x)) {
				t.Fatalf("seed %d: fine %v", seed, quiet.Fine(x))
			}
			right := true
			for g := range c.Gs {
				right = right && custody.Kept(x, g)
			}
			for _, places := range custody.Procs(x) {
				right = right && len(places) == 1
			}
			if custody.Right(x) && !right || x.Made() > c.Threads {
				t.Fatalf("seed %d: right %v, made %d", seed, custody.Right(x), x.Made())
			}
			quiet.Spinning(x)
			quiet.Spare(x)
		}
	}
}
