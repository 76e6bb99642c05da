package agenda_test

import (
	"cmp"
	"math"
	"slices"
	"testing"

	"turnspit/agenda"
	"turnspit/api"
	"turnspit/plays"
)

// list is an agenda that is a list, in order.
type list []agenda.Item

// ahead tells which of two items comes ahead: below 0, the first one.
func ahead(a, b agenda.Item) int {
	if a.Due != b.Due {
		return cmp.Compare(a.Due, b.Due)
	}
	return cmp.Compare(a.Key, b.Key)
}

// find is where the item of a key stands, or -1.
func (l list) find(key int) int {
	return slices.IndexFunc(l, func(x agenda.Item) bool { return x.Key == key })
}

// put is the list with one item more.
func (l list) put(x agenda.Item) list {
	l = append(slices.Clone(l), x)
	slices.SortFunc(l, ahead)
	return l
}

// drop is the list without the item at a place.
func (l list) drop(at int) list {
	return slices.Delete(slices.Clone(l), at, at+1)
}

// holds holds all that an agenda tells against a list.
func holds(t *testing.T, a *agenda.Agenda, l list) {
	t.Helper()
	if a.Len() != len(l) || !slices.Equal(a.All(), l) {
		t.Fatalf("there are %d, %v, want %v", a.Len(), a.All(), l)
	}
	first, is := a.First()
	if is != (len(l) > 0) || is && first != l[0] || !is && first != (agenda.Item{}) {
		t.Fatalf("the first one is %v, %v, want %v", first, is, l)
	}
	for key := -1; key < 12; key++ {
		due, is := a.At(key)
		at := l.find(key)
		if is != (at >= 0) || is && due != l[at].Due || !is && due != 0 {
			t.Fatalf("%d is due at %d, %v, want %v", key, due, is, l)
		}
	}
}

// fill is an agenda of items, in the order in which they are put.
func fill(t *testing.T, items ...agenda.Item) *agenda.Agenda {
	t.Helper()
	a := agenda.New()
	for _, x := range items {
		if e := a.Put(x); e != api.OK {
			t.Fatalf("Put of %v: %v", x, e)
		}
	}
	return a
}

// Promise 36.1: of no agenda ErrArg, the zero item, 0, false, nothing.
func TestNoAgenda(t *testing.T) {
	var a *agenda.Agenda
	if a.Put(agenda.Item{Due: 1, Key: 1}) != api.ErrArg || a.Len() != 0 || a.All() != nil || a.Due(math.MaxInt) != nil || a.Drop(1) || a.Move(1, 2) {
		t.Errorf("of none: %d, %v", a.Len(), a.All())
	}
	for _, take := range []func() (agenda.Item, bool){a.First, a.Pop} {
		if x, is := take(); x != (agenda.Item{}) || is {
			t.Errorf("of none: %v", x)
		}
	}
	if due, is := a.At(0); due != 0 || is {
		t.Errorf("of none: due at %d", due)
	}
}

// Promise 36.1: an agenda has no items at first; neither has one that nobody made.
func TestNew(t *testing.T) {
	for _, a := range []*agenda.Agenda{agenda.New(), {}} {
		for range 2 {
			holds(t, a, nil)
			if x, is := a.Pop(); x != (agenda.Item{}) || is || a.Drop(0) || a.Move(0, 0) || a.Due(math.MaxInt) != nil {
				t.Errorf("of an empty one: %v", x)
			}
			holds(t, a, nil)
			a.Put(agenda.Item{Due: 4, Key: 5})
			holds(t, a, list{{Due: 4, Key: 5}})
			if x, is := a.Pop(); x != (agenda.Item{Due: 4, Key: 5}) || !is {
				t.Errorf("popped: %v, %v", x, is)
			}
		}
	}
}

// The chapter's example, and items that are due at the same time.
func TestOrder(t *testing.T) {
	a := fill(t, agenda.Item{Due: 9, Key: 5}, agenda.Item{Due: 9, Key: 3}, agenda.Item{Due: 2, Key: 8})
	for _, key := range []int{8, 3, 5} {
		if x, is := a.Pop(); x.Key != key || !is {
			t.Errorf("popped: %v, %v, want %d", x, is, key)
		}
	}
	a = fill(t, agenda.Item{Due: math.MaxInt, Key: math.MinInt}, agenda.Item{Due: math.MinInt, Key: math.MaxInt}, agenda.Item{Due: 0, Key: 0}, agenda.Item{Due: math.MinInt, Key: -1}, agenda.Item{Due: -1, Key: 7}, agenda.Item{Due: math.MaxInt, Key: math.MaxInt - 1})
	for i, key := range []int{-1, math.MaxInt, 7, 0, math.MinInt, math.MaxInt - 1} {
		if x, is := a.Pop(); x.Key != key || !is {
			t.Errorf("popped %d: %v, %v, want %d", i, x, is, key)
		}
	}
}

// Promise 36.1: a key is there once, whenever it is due; when it is gone, it may come again.
func TestTwice(t *testing.T) {
	a := fill(t, agenda.Item{Due: 1, Key: 1}, agenda.Item{Due: 2, Key: 2})
	for _, due := range []int{0, 1, 2, 99} {
		if a.Put(agenda.Item{Due: due, Key: 1}) != api.ErrTwice {
			t.Errorf("1 is there twice")
		}
	}
	holds(t, a, list{{Due: 1, Key: 1}, {Due: 2, Key: 2}})
	for _, gone := range []func(){func() { a.Pop() }, func() { a.Due(1) }, func() { a.Drop(1) }} {
		gone()
		holds(t, a, list{{Due: 2, Key: 2}})
		if a.Put(agenda.Item{Due: -1, Key: 1}) != api.OK {
			t.Errorf("1 does not come again")
		}
		holds(t, a, list{{Due: -1, Key: 1}, {Due: 2, Key: 2}})
	}
}

// Promise 36.1: at most MaxItems items; that a key is there is told ahead of that.
func TestFull(t *testing.T) {
	if agenda.MaxItems != 65536 {
		t.Errorf("at most %d", agenda.MaxItems)
	}
	a := agenda.New()
	for i := range agenda.MaxItems {
		if e := a.Put(agenda.Item{Due: i * 40503 % 65536, Key: i}); e != api.OK {
			t.Fatalf("Put of %d: %v", i, e)
		}
	}
	if a.Put(agenda.Item{Key: -1}) != api.ErrLong || a.Put(agenda.Item{Key: 7}) != api.ErrTwice || a.Len() != agenda.MaxItems {
		t.Errorf("a full one takes more")
	}
	if !a.Drop(7) || a.Put(agenda.Item{Due: -1, Key: -1}) != api.OK || a.Put(agenda.Item{Key: 7}) != api.ErrLong {
		t.Errorf("a full one does not take another one for one that is gone")
	}
	all := a.All()
	if len(all) != agenda.MaxItems || !slices.IsSortedFunc(all, ahead) || all[0] != (agenda.Item{Due: -1, Key: -1}) {
		t.Errorf("all: %d", len(all))
	}
	if due := a.Due(math.MaxInt); !slices.Equal(due, all) || a.Len() != 0 {
		t.Errorf("due: %d", len(due))
	}
}

// Promise 36.1: due are all that are due at now or earlier.
func TestDue(t *testing.T) {
	items := list{{Due: math.MinInt, Key: 9}, {Due: -1, Key: 4}, {Due: 5, Key: 1}, {Due: 5, Key: 3}, {Due: 6, Key: 2}, {Due: math.MaxInt, Key: 0}}
	for now, many := range map[int]int{math.MinInt: 1, -2: 1, -1: 2, 0: 2, 4: 2, 5: 4, 6: 5, 7: 5, math.MaxInt - 1: 5, math.MaxInt: 6} {
		a := fill(t, items[3], items[1], items[5], items[0], items[4], items[2])
		if got := a.Due(now); !slices.Equal(got, items[:many]) {
			t.Errorf("due at %d: %v", now, got)
		}
		holds(t, a, items[many:])
		if a.Due(now) != nil {
			t.Errorf("due at %d again", now)
		}
	}
}

// Promises 36.1 and 36.2: whatever is done, an agenda is as a list in order is.
func TestMany(t *testing.T) {
	for seed := range uint64(300) {
		r := plays.New(seed)
		a, l := agenda.New(), list{}
		for n := range 300 {
			key, due := r.Below(11), r.Below(7)-3
			at := l.find(key)
			switch r.Below(9) {
			case 0, 1, 2, 3:
				want := api.OK
				if at >= 0 {
					want = api.ErrTwice
				} else {
					l = l.put(agenda.Item{Due: due, Key: key})
				}
				if got := a.Put(agenda.Item{Due: due, Key: key}); got != want {
					t.Fatalf("seed %d, %d: Put: %v, want %v", seed, n, got, want)
				}
			case 4, 5:
				if a.Drop(key) != (at >= 0) {
					t.Fatalf("seed %d, %d: Drop of %d", seed, n, key)
				}
				if at >= 0 {
					l = l.drop(at)
				}
			case 6, 7:
				if a.Move(key, due) != (at >= 0) {
					t.Fatalf("seed %d, %d: Move of %d", seed, n, key)
				}
				if at >= 0 {
					l = l.drop(at).put(agenda.Item{Due: due, Key: key})
				}
			case 8:
				l = takes(t, r, a, l, due)
			}
			holds(t, a, l)
		}
	}
}

// takes pops an item, or takes those that are due: what is left.
func takes(t *testing.T, r *plays.Roll, a *agenda.Agenda, l list, now int) list {
	t.Helper()
	if r.Below(2) == 0 {
		if x, is := a.Pop(); is != (len(l) > 0) || is && x != l[0] {
			t.Fatalf("popped: %v, %v, of %v", x, is, l)
		}
		return l[min(1, len(l)):]
	}
	many := 0
	for many < len(l) && l[many].Due <= now {
		many++
	}
	if got := a.Due(now); !slices.Equal(got, l[:many]) {
		t.Fatalf("due at %d: %v, of %v", now, got, l)
	}
	return l[many:]
}

// What is answered is new memory: what becomes of it changes nothing.
func TestAnswers(t *testing.T) {
	a := fill(t, agenda.Item{Due: 1, Key: 1}, agenda.Item{Due: 3, Key: 3}, agenda.Item{Due: 2, Key: 2})
	all := a.All()
	all[0], all[1], all[2] = agenda.Item{}, agenda.Item{}, agenda.Item{}
	holds(t, a, list{{Due: 1, Key: 1}, {Due: 2, Key: 2}, {Due: 3, Key: 3}})
	due := a.Due(1)
	_ = append(due[:0], agenda.Item{Due: 77, Key: 77})
	holds(t, a, list{{Due: 2, Key: 2}, {Due: 3, Key: 3}})
}
