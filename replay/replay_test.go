package replay_test

import (
	"math"
	"slices"
	"testing"

	"turnspit/api"
	"turnspit/plays"
	"turnspit/replay"
	"turnspit/world"
)

// step, back, watch and ticks are the entries of each kind.
func step(t int) api.Entry { return api.Entry{Kind: api.EnStep, Who: t} }
func back(t int) api.Entry { return api.Entry{Kind: api.EnReturn, Who: t} }
func watch() api.Entry     { return api.Entry{Kind: api.EnMon} }
func ticks() api.Entry     { return api.Entry{Kind: api.EnTick} }

// least is the least config.
func least() api.Config { return api.Config{Procs: 1, Threads: 1, Gs: 1} }

// made is a record.
func made(t *testing.T, c api.Config, words, draws []uint64, l []api.Entry) replay.Record {
	t.Helper()
	r, e := replay.Make(c, words, draws, l)
	if e != api.OK {
		t.Fatalf("Make: %v", e)
	}
	return r
}

// some is some record, which a roll of a seed makes up.
func some(t *testing.T, seed uint64) replay.Record {
	t.Helper()
	r := plays.New(seed + 400)
	c := r.Config(api.Config{Procs: 3, Threads: 6, Gs: 12})
	words, draws := r.Words(), r.Draws()
	s := r.NewScript(c.Threads)
	var l []api.Entry
	for range r.Below(3000) {
		e := s.Next()
		if r.Below(50) == 0 {
			e = step(r.Below(256)) // of a thread that there is not, too
		}
		l = append(l, e)
	}
	return made(t, c, words, draws, l)
}

// same tells whether both are the same.
func same(a, b replay.Record) bool {
	return a.Config == b.Config && slices.Equal(a.Words, b.Words) && slices.Equal(a.Draws, b.Draws) && slices.Equal(a.Script, b.Script) && slices.Equal(a.Log, b.Log)
}

// isZero tells whether it is the zero record.
func isZero(r replay.Record) bool {
	return r.Config == api.Config{} && r.Words == nil && r.Draws == nil && r.Script == nil && r.Log == nil
}

// by hand: a world, entry by entry.
func byHand(t *testing.T, r replay.Record, n int) *world.World {
	t.Helper()
	x, e := world.New(r.Config, r.Words, r.Draws)
	if e != api.OK {
		t.Fatalf("New: %v", e)
	}
	for _, entry := range r.Script[:n] {
		x.Do(entry)
	}
	return x
}

// Promise 37.1: a record has what it was made of, and the events of a world of it; a world of it is behind its script.
func TestMake(t *testing.T) {
	events := 0
	for seed := range uint64(150) {
		r := some(t, seed)
		x := byHand(t, r, len(r.Script))
		if !slices.Equal(r.Log, x.Log()) || !replay.Right(r) {
			t.Errorf("seed %d: %v, want %v", seed, r.Log, x.Log())
		}
		r.Log = nil // what its events are is all one to World
		y, e := replay.World(r)
		if e != api.OK || y.Entries() != len(r.Script) || !slices.Equal(y.Log(), x.Log()) || !slices.Equal(y.Mem().Words(), x.Mem().Words()) || y.Config() != r.Config {
			t.Errorf("seed %d: another world", seed)
		}
		events += len(x.Log())
	}
	if events < 1000 {
		t.Errorf("few events: %d", events)
	}
	if r := made(t, least(), nil, nil, nil); !same(r, replay.Record{Config: least()}) || !replay.Right(r) {
		t.Errorf("of nothing: %v", r)
	}
}

// wrong holds that there is no record, and no world, of some things.
func wrong(t *testing.T, want api.Errno, r replay.Record) {
	t.Helper()
	if got, e := replay.Make(r.Config, r.Words, r.Draws, r.Script); e != want || !isZero(got) {
		t.Errorf("Make: %v, want %v", e, want)
	}
	if x, e := replay.World(r); e != want || x != nil {
		t.Errorf("World: %v, want %v", e, want)
	}
	if replay.Right(r) {
		t.Errorf("it is right")
	}
	if text, e := replay.Write(r); text != "" || e != api.ErrRule {
		t.Errorf("Write: %v", e)
	}
	for _, n := range []int{-1, 0, 1, math.MaxInt} {
		if !isZero(replay.Cut(r, n)) {
			t.Errorf("Cut: %v", replay.Cut(r, n))
		}
	}
}

// Promise 37.1: what may not be: a config, or an entry, of 256 threads.
func TestMakeWrong(t *testing.T) {
	for _, c := range []api.Config{
		{}, {Procs: 0, Threads: 1, Gs: 1}, {Procs: 2, Threads: 1, Gs: 1}, {Procs: 1, Threads: 1, Gs: 0}, {Procs: 65, Threads: 65, Gs: 1}, {Procs: 1, Threads: 257, Gs: 1}, {Procs: 1, Threads: 1, Gs: 65537}, {Procs: -1, Threads: -1, Gs: -1}, {Procs: math.MaxInt, Threads: math.MinInt, Gs: math.MaxInt},
	} {
		wrong(t, api.ErrArg, replay.Record{Config: c, Words: []uint64{3}, Draws: []uint64{4}, Script: []api.Entry{step(0)}})
	}
	for _, e := range []api.Entry{{}, {Kind: 5}, {Kind: -1}, step(256), step(-1), back(256), back(-1), {Kind: api.EnMon, Who: 1}, {Kind: api.EnTick, Who: -1}, {Kind: math.MaxInt, Who: math.MinInt}} {
		for _, l := range [][]api.Entry{{e}, {step(0), e}, {e, step(0)}} {
			wrong(t, api.ErrArg, replay.Record{Config: least(), Script: l})
		}
	}
	r := made(t, least(), nil, nil, []api.Entry{step(255), back(255), step(1), watch(), ticks()}) // of threads that there are not: they are right, and nothing happens
	if !replay.Right(r) || len(r.Log) != 0 || len(r.Script) != 5 {
		t.Errorf("of other threads: %v", r)
	}
}

// Promise 37.1: at most MaxCode words, MaxDraws draws, MaxEntries entries; that is told ahead of all that may not be.
func TestMakeLong(t *testing.T) {
	if replay.MaxDraws != 4096 || replay.MaxEntries != 8192 || replay.MaxBytes != 4194304 {
		t.Errorf("limits: %d, %d, %d", replay.MaxDraws, replay.MaxEntries, replay.MaxBytes)
	}
	words, draws, l := slices.Repeat([]uint64{math.MaxUint64}, api.MaxCode), make([]uint64, replay.MaxDraws), slices.Repeat([]api.Entry{step(0), back(0)}, replay.MaxEntries/2)
	r := made(t, least(), words, draws, l)
	if len(r.Words) != api.MaxCode || len(r.Draws) != replay.MaxDraws || len(r.Script) != replay.MaxEntries || !replay.Right(r) {
		t.Errorf("the longest: %d, %d, %d", len(r.Words), len(r.Draws), len(r.Script))
	}
	for _, c := range []api.Config{least(), {}} {
		for _, entry := range []api.Entry{step(0), {}} {
			wrong(t, api.ErrLong, replay.Record{Config: c, Words: append(words, 0), Script: []api.Entry{entry}})
			wrong(t, api.ErrLong, replay.Record{Config: c, Draws: append(draws, 0), Script: []api.Entry{entry}})
			wrong(t, api.ErrLong, replay.Record{Config: c, Script: append(l, entry)})
		}
	}
}

// Promise 37.1: a record with other events than those of a world of it is not right.
func TestOtherEvents(t *testing.T) {
	r := made(t, api.Config{Procs: 1, Threads: 1, Gs: 2}, []uint64{10, 3, 7}, nil, slices.Repeat([]api.Entry{step(0)}, 100))
	if len(r.Log) < 4 {
		t.Fatalf("events: %v", r.Log)
	}
	for i := range r.Log {
		for _, change := range []func(e *api.Event){func(e *api.Event) { e.Kind++ }, func(e *api.Event) { e.G++ }, func(e *api.Event) { e.Other++ }, func(e *api.Event) { e.Thread++ }, func(e *api.Event) { e.Proc++ }} {
			other := r
			other.Log = slices.Clone(r.Log)
			change(&other.Log[i])
			isNotRight(t, other)
		}
		other := r
		other.Log = slices.Delete(slices.Clone(r.Log), i, i+1)
		isNotRight(t, other)
		other.Log = slices.Insert(slices.Clone(r.Log), i, r.Log[i])
		isNotRight(t, other)
	}
	other := r
	other.Log = nil
	isNotRight(t, other)
	other = r
	other.Words = []uint64{3}
	isNotRight(t, other)
	other = r
	other.Script = other.Script[:len(other.Script)/2]
	isNotRight(t, other)
	isNotRight(t, replay.Record{})
}

// isNotRight holds that a record is not right.
func isNotRight(t *testing.T, r replay.Record) {
	t.Helper()
	if replay.Right(r) || !isZero(replay.Cut(r, 5)) {
		t.Errorf("it is right: %v", r.Log)
	}
	if text, e := replay.Write(r); text != "" || e != api.ErrRule {
		t.Errorf("Write: %v", e)
	}
}

// Promise 37.1: a record that is cut has the first entries, and the events of these.
func TestCut(t *testing.T) {
	for seed := range uint64(6) {
		r := some(t, seed+100)
		long := len(r.Script)
		for _, n := range []int{math.MinInt, -1, 0, 1, 2, long / 3, long / 2, long - 1, long, long + 1, math.MaxInt} {
			want := r
			m := min(max(n, 0), long)
			want.Script = r.Script[:m]
			want.Log = byHand(t, r, m).Log()
			got := replay.Cut(r, n)
			if !same(got, want) || !replay.Right(got) {
				t.Errorf("seed %d, cut at %d of %d: %d entries, %d events, want %d", seed, n, long, len(got.Script), len(got.Log), len(want.Log))
			}
		}
	}
}

// What is handed in is neither changed nor kept.
func TestArguments(t *testing.T) {
	words, draws, l := []uint64{10, 3, 7, 4}, []uint64{5, 6}, slices.Repeat([]api.Entry{step(0), watch()}, 60)
	r := made(t, api.Config{Procs: 2, Threads: 2, Gs: 3}, words, draws, l)
	kept := made(t, api.Config{Procs: 2, Threads: 2, Gs: 3}, slices.Clone(words), slices.Clone(draws), slices.Clone(l))
	words[0], draws[0], l[0] = 0, 0, ticks()
	if !same(r, kept) || !replay.Right(r) {
		t.Errorf("a record follows what it was made of")
	}
	half := replay.Cut(r, 100)
	x, _ := replay.World(r)
	clear(half.Words)
	clear(half.Draws)
	clear(half.Script)
	clear(half.Log)
	if !same(r, kept) {
		t.Errorf("a record follows what was cut of it")
	}
	clear(r.Words)
	clear(r.Draws)
	r.Script[0] = ticks()
	for _, e := range kept.Script {
		x.Do(e)
	}
	y := byHand(t, kept, len(kept.Script))
	for _, e := range kept.Script {
		y.Do(e)
	}
	if !slices.Equal(x.Log(), y.Log()) {
		t.Errorf("a world follows its record")
	}
}
