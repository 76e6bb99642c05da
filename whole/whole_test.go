// Package whole holds worlds that dice make up against what the document says of the whole.
package whole

import (
	"slices"
	"testing"

	"turnspit/api"
	"turnspit/census"
	"turnspit/code"
	"turnspit/custody"
	"turnspit/dice"
	"turnspit/fair"
	"turnspit/layout"
	"turnspit/model"
	"turnspit/quiet"
	"turnspit/replay"
	"turnspit/report"
	"turnspit/ring"
	"turnspit/script"
	"turnspit/world"
)

// play is what dice make up: a world, and what it was made of.
type play struct {
	x            *world.World
	words, draws []uint64
	l            []api.Entry
}

// throw is what dice of a state make up, at the beginning.
func throw(t *testing.T, state uint64, most api.Config, many int) play {
	t.Helper()
	d := dice.New(state)
	c, e := d.Config(most)
	if e != api.OK {
		t.Fatalf("Config: %v", e)
	}
	p := play{words: d.Programs(1 + d.Below(5)), draws: d.Draws(d.Below(200)), l: d.Script(c, many)}
	p.x, e = world.New(c, p.words, p.draws)
	if e != api.OK {
		t.Fatalf("New: %v", e)
	}
	return p
}

// bounds holds P5: no access is bad, and nothing is more than there may be.
func bounds(t *testing.T, x *world.World) {
	t.Helper()
	l, c := x.Layout(), x.Config()
	for p := range c.Procs {
		head, _ := x.Mem().Peek(l.Proc(p, layout.Head))
		tail, _ := x.Mem().Peek(l.Proc(p, layout.Tail))
		if ring.Many(head, tail) > api.RingSize {
			t.Errorf("the ring of %d goes from %d to %d", p, head, tail)
		}
	}
	spinning, _ := x.Mem().Peek(l.Word(layout.Spinning))
	if x.Mem().Bad() != 0 || spinning > uint64(c.Procs) || x.Made() > c.Threads {
		t.Errorf("bad %d, Spinning %d, %d threads", x.Mem().Bad(), spinning, x.Made())
	}
}

// P1, P2, P3, P5: at each entry what happens may be of a bag of goroutines, all is kept, and no wakeup is lost.
func TestEachEntry(t *testing.T) {
	events := 0
	for state := range uint64(400) {
		p := throw(t, state, []api.Config{{Procs: 1, Threads: 2, Gs: 3}, {Procs: 3, Threads: 5, Gs: 9}, {Procs: 5, Threads: 12, Gs: 40}}[state%3], 2500)
		x, c := p.x, p.x.Config()
		bag, _ := model.New(code.Read(p.words), c)
		for n, e := range p.l {
			x.Do(e)
			if one, is := x.Event(); is && bag.Do(one) != api.OK {
				t.Errorf("%v may not be", one)
			}
			bounds(t, x)
			if !custody.Right(x) || !quiet.Fine(x) || bag.Count(api.GRunning) > c.Procs {
				t.Errorf("right %v, fine %v, %d run", custody.Right(x), quiet.Fine(x), bag.Count(api.GRunning))
			}
			if t.Failed() {
				t.Fatalf("state %d, entry %d", state, n)
			}
		}
		sum, _ := census.Of(c, x.Log())
		if sum.Now != bag.Count(api.GRunning) || sum.Live() != c.Gs-bag.Count(api.GIdle)-bag.Count(api.GDead) || sum.Most > c.Procs {
			t.Errorf("state %d: %d run, %d live", state, sum.Now, sum.Live())
		}
		events += sum.Total()
	}
	if events < 3000 {
		t.Errorf("few events: %d", events)
	}
}

// P4: behind whatever script, those who are runnable start, if it goes on fairly.
func TestStarts(t *testing.T) {
	const most = 5000 // hundreds of rounds: who lies in the queue may wait for api.Every starts of others, for each one ahead
	waited := 0
	for state := range uint64(150) {
		p := throw(t, state+1000, api.Config{Procs: 4, Threads: 8, Gs: 256}, 3000)
		for _, e := range p.l {
			p.x.Do(e)
		}
		late, from := fair.Runnable(p.x), len(p.x.Log())
		waited += len(late)
		for n := 0; len(late) > 0; n++ {
			if n == most {
				t.Fatalf("state %d: %v do not start", state, late)
			}
			for range 100 {
				for _, e := range fair.Round(p.x.Config()) {
					p.x.Do(e)
				}
			}
			late = fair.Late(p.x, late, from)
		}
	}
	if waited < 100 {
		t.Errorf("few were runnable: %d", waited)
	}
}

// P6: a record is of what happens; by its text, and by the texts of its parts, it plays as it did.
func TestTexts(t *testing.T) {
	for state := range uint64(60) {
		p := throw(t, state+2000, api.Config{Procs: 3, Threads: 6, Gs: 12}, 4000)
		for _, e := range p.l {
			p.x.Do(e)
		}
		r, e := replay.Make(p.x.Config(), p.words, p.draws, p.l)
		if e != api.OK || !slices.Equal(r.Log, p.x.Log()) {
			t.Fatalf("state %d: Make: %v", state, e)
		}
		text, e := replay.Write(r)
		back, f := replay.Read(text)
		if e != api.OK || f != api.OK || !slices.Equal(back.Log, r.Log) {
			t.Errorf("state %d: Write: %v, Read: %v", state, e, f)
		}
		entries, _ := script.Write(p.l)
		l, _ := script.Read(entries)
		words, e := script.Words(script.Programs(code.Read(p.words)))
		again, f := replay.Make(p.x.Config(), words, p.draws, l)
		if e != api.OK || f != api.OK || !slices.Equal(again.Log, r.Log) || !slices.Equal(words, p.words) {
			t.Errorf("state %d: by its parts' texts it plays otherwise: %v, %v", state, e, f)
		}
		log, e := report.Write(r.Log)
		if told, f := report.Read(log); e != api.OK || f != api.OK || !slices.Equal(told, r.Log) {
			t.Errorf("state %d: Write of events: %v, Read: %v", state, e, f)
		}
	}
}
