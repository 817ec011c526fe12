package ops_test

import (
	"math/rand"
	"slices"
	"testing"

	"estuary/api"
	"estuary/ops"
)

// P16.3: two that differ in one field alone are not the same, whichever field it is, and whether they may be or not.
func TestSame(t *testing.T) {
	base := api.Op{Path: []string{"a", "b"}, Kind: api.Set, Key: "k", Do: api.DoInsert, Number: 1, Text: "x"}
	changes := []func(o *api.Op){
		func(o *api.Op) {},
		func(o *api.Op) { o.Path = nil },
		func(o *api.Op) { o.Path = []string{"a"} },
		func(o *api.Op) { o.Path = []string{"b", "a"} },
		func(o *api.Op) { o.Path = []string{"a", "b", ""} },
		func(o *api.Op) { o.Path = []string{"ab"} },
		func(o *api.Op) { o.Path = []string{"a/b"} },
		func(o *api.Op) { o.Path = []string{"", "a", "b"} },
		func(o *api.Op) { o.Path = []string{"a", "c"} },
		func(o *api.Op) { o.Kind = api.Queue },
		func(o *api.Op) { o.Kind = -1 },
		func(o *api.Op) { o.Key = "l" },
		func(o *api.Op) { o.Key = "" },
		func(o *api.Op) { o.Do = api.DoRemove },
		func(o *api.Op) { o.Do = 0 },
		func(o *api.Op) { o.Number = -1 },
		func(o *api.Op) { o.Number = 0 },
		func(o *api.Op) { o.Text = "" },
		func(o *api.Op) { o.Text = "y" },
	}
	for i, one := range changes {
		for j, other := range changes {
			a, b := base, base
			a.Path, b.Path = slices.Clone(base.Path), slices.Clone(base.Path)
			one(&a)
			other(&b)
			if ops.Same(a, b) != (i == j) {
				t.Errorf("Same of %v and %v: %v", a, b, i != j)
			}
		}
	}
	if !ops.Same(api.Op{}, api.Op{}) || !ops.Same(api.Op{Path: []string{}}, api.Op{}) || !ops.Same(api.Op{}, api.Op{Path: []string{}}) {
		t.Error("Same of no path and an empty one")
	}
	for _, o := range goodOps() {
		again := o
		again.Path = slices.Clone(o.Path)
		if !ops.Same(o, again) {
			t.Errorf("Same of %v and itself", o)
		}
	}
}

func samePlace(a, b api.Place) bool {
	return slices.Equal(a.Path, b.Path) && a.Kind == b.Kind && a.Key == b.Key
}

func wantThings(t *testing.T, l []api.Op, want ...api.Place) {
	t.Helper()
	if got := ops.Things(l...); !slices.EqualFunc(got, want, samePlace) {
		t.Errorf("Things of %v: %v; want %v", l, got, want)
	}
}

// P16.3: places by paths, kinds, keys, each once.
func TestThings(t *testing.T) {
	add := api.Op{Kind: api.Counter, Key: "hits", Do: api.DoAdd, Number: 3}
	pop := api.Op{Path: []string{"a", "b"}, Kind: api.Queue, Key: "q", Do: api.DoPop}
	hits, q := api.Place{Kind: api.Counter, Key: "hits"}, api.Place{Path: []string{"a", "b"}, Kind: api.Queue, Key: "q"}
	wantThings(t, nil)
	wantThings(t, []api.Op{})
	wantThings(t, []api.Op{add}, hits)
	wantThings(t, []api.Op{pop, add, pop}, hits, q)
	wantThings(t, []api.Op{add, add, add}, hits)
	wantThings(t, []api.Op{{Path: []string{}, Kind: api.Counter, Key: "hits"}, add, {Path: []string{}, Kind: api.Counter, Key: "hits"}}, hits)
	push, insert := pop, add
	push.Do, push.Text = api.DoPush, "x"
	insert.Kind, insert.Do = api.Set, api.DoInsert
	wantThings(t, []api.Op{push, insert, pop, add}, hits, api.Place{Kind: api.Set, Key: "hits"}, q)
}

// places is places in order, of operations that may be and of such that may not be.
func places() []api.Place {
	var l []api.Place
	for _, path := range [][]string{nil, {""}, {"", ""}, {"\x00"}, {"a"}, {"a", "b"}, {"a", "b", "c", "d", "e", "f", "g", "h"}, {"a", "c"}, {"a/b"}, {"aa"}, {"b"}, {"é"}, {"\xff"}} {
		for _, k := range []api.Kind{-1 << 63, -1, 0, api.Counter, api.Set, api.Register, api.Queue, api.Journal, api.Map, 7, 1<<63 - 1} {
			for _, key := range []string{"", "\x00", "K", "a", "a/", "ab", "k", "\U0010FFFF", "\xff"} {
				l = append(l, api.Place{Path: path, Kind: k, Key: key})
			}
		}
	}
	return l
}

// opAt is an operation on the thing of a place; the other fields are no part of that.
func opAt(p api.Place, random *rand.Rand) api.Op {
	return api.Op{Path: p.Path, Kind: p.Kind, Key: p.Key, Do: api.Do(random.Intn(12) - 2), Number: random.Int63() - random.Int63(), Text: []string{"", "x", "\xff"}[random.Intn(3)]}
}

// P16.3: of any operations, several times, in any order.
func TestThingsOfAny(t *testing.T) {
	random, all := rand.New(rand.NewSource(16)), places()
	for round := range 300 {
		var want []api.Place
		var l []api.Op
		for _, p := range all {
			if random.Intn(300) > round {
				continue
			}
			want = append(want, p)
			for range 1 + random.Intn(3) {
				l = append(l, opAt(p, random))
			}
		}
		random.Shuffle(len(l), func(i, j int) { l[i], l[j] = l[j], l[i] })
		if got := ops.Things(l...); !slices.EqualFunc(got, want, samePlace) {
			t.Fatalf("Things of %d operations: %v; want %v", len(l), got, want)
		}
	}
}
