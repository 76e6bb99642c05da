package flow_test

import (
	"math"
	"slices"
	"testing"

	"turnspit/api"
	"turnspit/cell"
	"turnspit/flow"
)

// got holds what a chain tells against what it should.
func got(t *testing.T, c *flow.Chain, want ...uint64) {
	t.Helper()
	if g := c.Got(); !slices.Equal(g, want) {
		t.Errorf("Got: %v, want %v", g, want)
	}
}

// The chapter's example.
func TestChainExample(t *testing.T) {
	m := mem(t, 7, 0)
	c := flow.New(0, []api.Access{{Kind: api.AcLoad, At: 0}, {Kind: api.AcStore, At: 1, New: 5}})
	step(t, m, c, load(0, 0, 7), false)
	step(t, m, c, store(0, 1, 0, 5), true)
}

// Promise 7.2: each kind of access, done and not, and at no place, and what is told of it behind each step.
func TestChain(t *testing.T) {
	m := mem(t, 5, 0, 1<<32-1)
	c := flow.New(4, []api.Access{
		{Kind: api.AcLoad, At: 0},
		{Kind: api.AcSwap, At: 0, Old: 4, New: 9},
		{Kind: api.AcSwap, At: 0, Old: 5, New: 9},
		{Kind: api.AcStore, At: 1, New: math.MaxUint64},
		{Kind: api.AcAdd, At: 2, New: 3},
		{Kind: api.AcAdd, At: -1, New: 3},
		{Kind: api.AcLoad, At: 3},
		{Kind: api.AcSwap, At: 3},
		{Kind: api.AcStore, At: math.MaxInt, New: 2},
		{Kind: api.AcNone, At: 1},
	})
	steps := []struct {
		last   api.Access
		answer uint64
	}{
		{load(4, 0, 5), 5},
		{api.Access{Kind: api.AcSwap, Who: 4, At: 0, Old: 5, New: 9}, 0},
		{api.Access{Kind: api.AcSwap, Who: 4, At: 0, Old: 5, New: 9, Done: true}, 1},
		{store(4, 1, 0, math.MaxUint64), 0},
		{api.Access{Kind: api.AcAdd, Who: 4, At: 2, Old: 1<<32 - 1, New: 2, Done: true}, 2},
		{api.Access{Kind: api.AcAdd, Who: 4, At: -1, New: 3}, 0},
		{api.Access{Kind: api.AcLoad, Who: 4, At: 3}, 0},
		{api.Access{Kind: api.AcSwap, Who: 4, At: 3}, 0},
		{api.Access{Kind: api.AcStore, Who: 4, At: math.MaxInt, New: 2}, 0},
		{load(4, 1, math.MaxUint64), math.MaxUint64},
	}
	got(t, c)
	var want []uint64
	for i, x := range steps {
		step(t, m, c, x.last, i == len(steps)-1)
		want = append(want, x.answer)
		got(t, c, want...)
	}
	rests(t, m, c, true)
	got(t, c, want...)
}

// Promise 7.2: chains of no accesses, and of kinds that there are not, are done ahead.
func TestChainOfNone(t *testing.T) {
	m := mem(t, 0)
	for i, c := range []*flow.Chain{
		flow.New(1, nil), flow.New(1, []api.Access{}),
		flow.New(1, []api.Access{{Kind: 5}}), flow.New(1, []api.Access{{Kind: -1}, {Kind: 77}, {Kind: math.MinInt}, {Kind: math.MaxInt}}),
		flow.Parts(1, nil), flow.Parts(1, [][]api.Access{}), flow.Parts(1, [][]api.Access{nil}),
		flow.Parts(1, [][]api.Access{nil, {}, {{Kind: 6}}, nil}),
	} {
		if !c.Done() || c.Asleep(m) {
			t.Errorf("chain %d: Done %v, Asleep %v", i, c.Done(), c.Asleep(m))
		}
		rests(t, m, c, true)
		got(t, c)
	}
}

// Promise 7.2: kinds that there are not are passed, without a step and without an answer, wherever they stand.
func TestChainPasses(t *testing.T) {
	m := mem(t, 5)
	c := flow.New(1, []api.Access{{Kind: 5}, {Kind: -1}, {Kind: api.AcLoad}, {Kind: 6}, {Kind: api.AcStore, New: 6}, {Kind: math.MaxInt}})
	step(t, m, c, load(1, 0, 5), false)
	got(t, c, 5)
	step(t, m, c, store(1, 0, 5, 6), true)
	got(t, c, 5, 0)
}

// Promise 7.2: of an access Kind, At, Old and New alone count.
func TestChainFields(t *testing.T) {
	m := mem(t, 5)
	c := flow.New(1, []api.Access{
		{Kind: api.AcLoad, Who: 9, Old: 7, New: 8, Done: true},
		{Kind: api.AcStore, Who: 9, Old: 7, New: 6, Done: true},
		{Kind: api.AcAdd, Who: 9, Old: 7, New: 1},
		{Kind: api.AcNone, Who: 9, Old: 7, New: 8},
	})
	step(t, m, c, load(1, 0, 5), false)
	step(t, m, c, store(1, 0, 5, 6), false)
	step(t, m, c, api.Access{Kind: api.AcAdd, Who: 1, Old: 6, New: 7, Done: true}, false)
	step(t, m, c, load(1, 0, 7), true)
}

// Promise 7.2: AcNone sleeps: a word that is 0 is loaded once, and again when it is stored; what is told is the word then.
func TestChainSleeps(t *testing.T) {
	m := mem(t, 0, 0)
	c := flow.New(2, []api.Access{{Kind: api.AcNone, At: 1}, {Kind: api.AcLoad, At: 0}})
	if c.Asleep(m) {
		t.Errorf("asleep, ahead of the first step")
	}
	step(t, m, c, load(2, 1, 0), false)
	for range 20 {
		if !c.Asleep(m) {
			t.Errorf("not asleep")
		}
		rests(t, m, c, false)
		got(t, c)
	}
	m.Store(9, 1, 77)
	if c.Asleep(m) {
		t.Errorf("asleep, where the word is not 0")
	}
	step(t, m, c, load(2, 1, 77), false)
	got(t, c, 77)
	if c.Asleep(m) {
		t.Errorf("asleep, where a load is to come")
	}
	step(t, m, c, load(2, 0, 0), true)
	got(t, c, 77, 0)
}

// Promise 7.2: parts are run one behind the other; what they were told is told when they are done.
func TestParts(t *testing.T) {
	m := mem(t, 5, 0)
	c := flow.Parts(3, [][]api.Access{
		nil,
		{{Kind: api.AcLoad}, {Kind: api.AcAdd, New: 1}},
		{},
		{{Kind: 8}},
		{{Kind: api.AcNone, At: 1}, {Kind: api.AcSwap, Old: 6, New: 2}},
		{{Kind: api.AcStore, New: 1}},
		nil,
	})
	got(t, c)
	step(t, m, c, load(3, 0, 5), false)
	got(t, c)
	step(t, m, c, api.Access{Kind: api.AcAdd, Who: 3, Old: 5, New: 6, Done: true}, false)
	got(t, c, 5, 6)
	step(t, m, c, load(3, 1, 0), false)
	if !c.Asleep(m) {
		t.Errorf("not asleep within a part")
	}
	rests(t, m, c, false)
	m.Store(9, 1, 4)
	if c.Asleep(m) {
		t.Errorf("asleep, where the word is not 0")
	}
	step(t, m, c, load(3, 1, 4), false)
	got(t, c, 5, 6)
	step(t, m, c, api.Access{Kind: api.AcSwap, Who: 3, Old: 6, New: 2, Done: true}, false)
	got(t, c, 5, 6, 4, 1)
	step(t, m, c, store(3, 0, 2, 1), true)
	got(t, c, 5, 6, 4, 1, 0)
	rests(t, m, c, true)
}

// Promise 7.2: one part alone.
func TestOnePart(t *testing.T) {
	m := mem(t, 5)
	c := flow.Parts(3, [][]api.Access{{{Kind: api.AcLoad}, {Kind: api.AcLoad}}})
	step(t, m, c, load(3, 0, 5), false)
	got(t, c)
	step(t, m, c, load(3, 0, 5), true)
	got(t, c, 5, 5)
}

// R3: a list that is changed after it was handed in changes nothing, and lists are not changed.
func TestListsAreNotKept(t *testing.T) {
	m := mem(t, 5, 6)
	l := []api.Access{{Kind: api.AcLoad, At: 1}, {Kind: 9}, {Kind: api.AcStore, New: 3}}
	ll := [][]api.Access{slices.Clone(l), nil, {{Kind: api.AcLoad}}}
	c, p := flow.New(1, l), flow.Parts(1, ll)
	if l[0] != (api.Access{Kind: api.AcLoad, At: 1}) || l[1].Kind != 9 || l[2] != (api.Access{Kind: api.AcStore, New: 3}) || len(ll) != 3 || len(ll[2]) != 1 {
		t.Errorf("lists were changed: %v, %v", l, ll)
	}
	clear(l)
	clear(ll[0])
	ll[2] = nil
	step(t, m, c, load(1, 1, 6), false)
	step(t, m, c, store(1, 0, 5, 3), true)
	step(t, m, p, load(1, 1, 6), false)
	ll[1] = []api.Access{{Kind: api.AcLoad}}
	step(t, m, p, store(1, 0, 3, 3), false)
	step(t, m, p, load(1, 0, 3), true)
}

// R3: an answer of Got that is changed changes nothing, and does not change by itself.
func TestGotIsNew(t *testing.T) {
	l := []api.Access{{Kind: api.AcLoad}, {Kind: api.AcLoad}, {Kind: api.AcLoad}}
	for _, c := range []*flow.Chain{flow.New(1, l), flow.Parts(1, [][]api.Access{l[:1], l[1:2], l[2:]})} {
		m := mem(t, 5)
		c.Step(m)
		c.Step(m)
		a, b := c.Got(), c.Got()
		a[0] = 77
		_ = append(a[:1], 78, 79)
		got(t, c, 5, 5)
		if !slices.Equal(b, []uint64{5, 5}) {
			t.Errorf("two answers share what they tell: %v", b)
		}
		m.Store(9, 0, 6)
		c.Step(m)
		got(t, c, 5, 5, 6)
		if !slices.Equal(b, []uint64{5, 5}) {
			t.Errorf("an answer has changed: %v", b)
		}
	}
}

// R1 and promise 7.2: of no chain: done, nothing told, not asleep.
func TestNoChain(t *testing.T) {
	var c *flow.Chain
	m := mem(t, 0)
	if c.Asleep(m) || len(c.Got()) != 0 {
		t.Errorf("Asleep %v, Got %v", c.Asleep(m), c.Got())
	}
	rests(t, m, c, true)
}

// R1: a chain that New did not make has nothing to do.
func TestBareChain(t *testing.T) {
	c, m := &flow.Chain{}, mem(t, 0)
	rests(t, m, c, true)
	got(t, c)
}

// A step of a chain without a memory does nothing.
func TestChainNoMemory(t *testing.T) {
	m := mem(t, 5)
	c, p := flow.New(1, []api.Access{{Kind: api.AcLoad}}), flow.Parts(1, [][]api.Access{{{Kind: api.AcLoad}}})
	for _, x := range []*flow.Chain{c, p} {
		if x.Step(nil) || x.Done() {
			t.Errorf("done without a memory")
		}
		x.Asleep(nil)
		step(t, m, x, load(1, 0, 5), true)
		got(t, x, 5)
	}
}

// slow is a chain as the chapter tells it: parts, of which the first one is gone on with.
type slow struct {
	who    int
	parts  [][]api.Access
	part   []uint64 // what was answered within the part that is run
	all    []uint64
	asleep bool
}

// skip passes what makes no step.
func (x *slow) skip(whole bool) {
	for len(x.parts) > 0 {
		for len(x.parts[0]) > 0 && (x.parts[0][0].Kind < 0 || x.parts[0][0].Kind > 4) {
			x.parts[0] = x.parts[0][1:]
		}
		if len(x.parts[0]) > 0 {
			break
		}
		x.all = append(x.all, x.part...)
		x.part, x.parts = nil, x.parts[1:]
	}
	if !whole { // a chain of New tells all that was answered
		x.all = append(x.all, x.part...)
		x.part = nil
	}
}

// step does a step at a memory, and tells whether it is done.
func (x *slow) step(m *cell.Mem) bool {
	if len(x.parts) == 0 {
		return true
	}
	a, answer := x.parts[0][0], uint64(0)
	switch a.Kind {
	case api.AcLoad:
		answer = m.Load(x.who, a.At)
	case api.AcStore:
		m.Store(x.who, a.At, a.New)
	case api.AcSwap:
		if m.Swap(x.who, a.At, a.Old, a.New) {
			answer = 1
		}
	case api.AcAdd:
		answer = m.Add(x.who, a.At, a.New)
	case api.AcNone:
		if x.sleeps(m) {
			return false
		}
		answer = m.Load(x.who, a.At)
		x.asleep = answer == 0
		if x.asleep {
			return false
		}
	}
	x.part = append(x.part, answer)
	x.parts[0] = x.parts[0][1:]
	return false
}

func (x *slow) sleeps(m *cell.Mem) bool {
	w, _ := m.Peek(x.parts[0][0].At)
	return x.asleep && w == 0
}

// rolls are numbers that look like any, the same at each run.
type rolls uint64

func (r *rolls) below(n int) int {
	*r = *r*6364136223846793005 + 1442695040888963407
	return int(uint64(*r>>33) % uint64(n))
}

// access is one that is made up, of few words and few values, so that swaps and sleeps go both ways.
func (r *rolls) access() api.Access {
	return api.Access{Kind: r.below(7) - 1, At: r.below(3), Old: uint64(r.below(3)), New: uint64(r.below(3))}
}

// Promises 7.1 and 7.2: chains that are made up, gone on with between one another, do what the chapter says, step by step.
func TestChainsAgainstSlowOnes(t *testing.T) {
	r := rolls(1)
	for range 300 {
		a, b := mem(t, 0, 1, 2), mem(t, 0, 1, 2)
		var chains []*flow.Chain
		var slows []*slow
		var whole []bool
		for who := range 3 {
			var parts [][]api.Access
			for range r.below(4) {
				var l []api.Access
				for range r.below(5) {
					l = append(l, r.access())
				}
				parts = append(parts, l)
			}
			whole = append(whole, r.below(2) == 0)
			x := &slow{who: who}
			if whole[who] {
				chains = append(chains, flow.Parts(who, parts))
				x.parts = slices.Clone(parts)
			} else {
				l := slices.Concat(parts...)
				chains = append(chains, flow.New(who, l))
				x.parts = [][]api.Access{l}
			}
			x.skip(whole[who])
			slows = append(slows, x)
		}
		for range 60 {
			i := r.below(3)
			done := chains[i].Step(a)
			slows[i].step(b)
			slows[i].skip(whole[i])
			if want := len(slows[i].parts) == 0; done != want || chains[i].Done() != want {
				t.Fatalf("chain %d: %v, want %v", i, done, want)
			}
			if a.Last() != b.Last() || a.Clock() != b.Clock() || !slices.Equal(a.Words(), b.Words()) {
				t.Fatalf("chain %d did %v, want %v", i, a.Last(), b.Last())
			}
			for k, c := range chains {
				asleep := len(slows[k].parts) > 0 && slows[k].sleeps(b)
				if c.Asleep(a) != asleep || !slices.Equal(c.Got(), slows[k].all) {
					t.Fatalf("chain %d: Asleep %v, want %v, Got %v, want %v", k, c.Asleep(a), asleep, c.Got(), slows[k].all)
				}
			}
		}
	}
}
