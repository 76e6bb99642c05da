package quiet_test

import (
	"testing"

	"turnspit/api"
	"turnspit/globq"
	"turnspit/idlep"
	"turnspit/layout"
	"turnspit/plays"
	"turnspit/quiet"
	"turnspit/ring"
	"turnspit/thread"
	"turnspit/wake"
	"turnspit/world"
)

// tally is how often there was what.
type tally struct {
	quiet, work, room int // where all was quiet
	count, more, less int // somebody counted; Spinning was more than that; threads were to be had, besides those for idle processors
}

// word is one of the scheduler's words.
func word(x *world.World, w int) int {
	n, _ := x.Mem().Peek(x.Layout().Word(w))
	return int(n)
}

// isQuiet reads the words of the chapter.
func isQuiet(x *world.World) bool {
	made := word(x, layout.Threads)
	for one := range made {
		y := x.Thread(one)
		if !y.Blocked(x.Mem()) && y.Does() != thread.Runs {
			return false
		}
	}
	return x.Mon().Between()
}

// work is how many wait.
func work(x *world.World) int {
	list, _ := globq.List(x.Layout(), x.Mem())
	n := len(list)
	for p := range x.Config().Procs {
		gs, _ := ring.Gs(x.Layout(), x.Mem(), p)
		n += len(gs)
	}
	return n
}

// many are how many count, and how many wake another thread, or hand a processor over.
func many(x *world.World) (count, hands int) {
	add := func(n *int, is bool) {
		if is {
			*n++
		}
	}
	for one := range x.Config().Threads {
		y := x.Thread(one)
		add(&count, y.Spins())
		add(&count, y.Counts())
		given, _ := x.Mem().Peek(x.Layout().Thread(one, layout.Given))
		_, spins := wake.Given(given)
		add(&count, spins)
		add(&hands, y.Hand() != api.None)
	}
	add(&count, x.Mon().Counts())
	add(&hands, x.Mon().Hand() != api.None)
	return count, hands
}

// holds holds a world as it is against the chapter.
func holds(t *testing.T, x *world.World, tally *tally) {
	t.Helper()
	idle, _ := idlep.List(x.Layout(), x.Mem())
	is := told{quiet: isQuiet(x), work: work(x) > 0, room: len(idle) > 0, fine: true}
	tells(t, x, is)
	count, hands := many(x)
	counts(t, x, count, x.Config().Threads+word(x, layout.IdleMs)-word(x, layout.Threads)-word(x, layout.IdlePs))
	spinning := word(x, layout.Spinning)
	if spinning < count || spinning > count+hands || spinning > x.Config().Procs {
		t.Errorf("Spinning is %d, %d count, %d have a processor in the hand", spinning, count, hands)
	}
	if count > 0 {
		tally.count++
	}
	if spinning > count {
		tally.more++
	}
	if !is.quiet {
		return
	}
	if quiet.Spare(x) < 0 || spinning != 0 {
		t.Errorf("all is quiet, and %d are missing, Spinning %d", quiet.Spare(x), spinning)
	}
	tally.quiet++
	if is.work {
		tally.work++
	}
	if is.room {
		tally.room++
	}
	if quiet.Spare(x) > 0 {
		tally.less++
	}
}

// Promise 31.3: whatever the script, at each step the world is fine; Spinning is how many count, or more by those who have a processor in the hand; and where all is quiet, there are as many threads to be had as processors that are idle.
func TestMany(t *testing.T) {
	tally := &tally{}
	for seed := range uint64(240) {
		r := plays.New(seed + 5000)
		c := r.Config([]api.Config{{Procs: 1, Threads: 3, Gs: 4}, {Procs: 4, Threads: 8, Gs: 20}, {Procs: 2, Threads: 3, Gs: 6}, {Procs: 6, Threads: 14, Gs: 600}}[seed%4])
		x, e := world.New(c, r.Words(), r.Draws())
		if e != api.OK {
			t.Fatalf("New: %v", e)
		}
		s := r.NewScript(c.Threads)
		for n := range 4000 {
			x.Do(s.Next())
			holds(t, x, tally)
			if t.Failed() {
				t.Fatalf("seed %d, entry %d", seed, n)
			}
		}
	}
	if tally.quiet < 5000 || tally.work < 2000 || tally.room < 2000 || tally.count < 20000 || tally.more < 2000 || tally.less < 2000 {
		t.Errorf("there was too little: %v", *tally)
	}
}

// settle lets all go on that are not at rest, in turn, until all are, for long.
func settle(t *testing.T, x *world.World, tally *tally) {
	t.Helper()
	for n := 0; !quiet.Quiet(x); n++ {
		if n > 3000 {
			t.Fatalf("it does not come to rest")
		}
		for one := range x.Config().Threads {
			if !quiet.AtRest(x, one) {
				step(x, one)
				holds(t, x, tally)
			}
		}
		if !x.Mon().Between() {
			watch(x)
			holds(t, x, tally)
		}
	}
}

// Promise 31.3: from wherever a script has come, all comes to rest, if those who run are let be; then either nobody waits, or all processors have something to do.
func TestComesToRest(t *testing.T) {
	tally := &tally{}
	for seed := range uint64(150) {
		r := plays.New(seed + 6000)
		c := r.Config(api.Config{Procs: 5, Threads: 9, Gs: 30})
		x, _ := world.New(c, r.Words(), r.Draws())
		s := r.NewScript(c.Threads)
		for range 12 {
			for range r.Below(400) {
				x.Do(s.Next())
			}
			settle(t, x, tally)
			idle, _ := idlep.List(x.Layout(), x.Mem())
			if work(x) > 0 && len(idle) > 0 {
				t.Errorf("seed %d: %d wait, %v are idle", seed, work(x), idle)
			}
		}
	}
	if tally.work < 100 || tally.room < 100 {
		t.Errorf("there was too little: %v", *tally)
	}
}
