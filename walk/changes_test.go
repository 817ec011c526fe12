package walk_test

import (
	"slices"
	"testing"

	"estuary/pmap"
	"estuary/walk"
)

type change struct {
	key   string
	parts [2]part
}

func changes(a, b textMap) []change {
	var l []change
	for k, parts := range walk.Changes(a, b) {
		l = append(l, change{k, parts})
	}
	return l
}

// plainChanges is what Changes must tell, by asking both for each key of either.
func plainChanges(a, b textMap) []change {
	var l []change
	keys := append(keysOf(a), keysOf(b)...)
	slices.Sort(keys)
	for _, k := range slices.Compact(keys) {
		if x, y := partOf(a, k), partOf(b, k); x.Has != y.Has {
			l = append(l, change{k, [2]part{x, y}})
		}
	}
	return l
}

func gone(key string) change { return change{key, [2]part{{Value: "v" + key, Has: true}, {}}} }
func come(key string) change { return change{key, [2]part{{}, {Value: "v" + key, Has: true}}} }

// P8.2: the keys that just one has, rising; a key of both is none of them, whatever its values.
func TestChanges(t *testing.T) {
	var none textMap
	m := of("a", "b", "c")
	for i, c := range []struct {
		a, b textMap
		want []change
	}{
		{none, none, nil},
		{m, m, nil},
		{m, of("a", "b", "c"), nil},
		{m, m.Put("b", "other"), nil},
		{none, m, []change{come("a"), come("b"), come("c")}},
		{m, none, []change{gone("a"), gone("b"), gone("c")}},
		{m, of("b", "d", ""), []change{come(""), gone("a"), gone("c"), come("d")}},
		{m.Take("a"), m.Put("d", "vd").Take("c"), []change{come("a"), gone("c"), come("d")}},
	} {
		if got := changes(c.a, c.b); !slices.Equal(got, c.want) {
			t.Errorf("%d: %v", i, got)
		}
	}
}

// P8.2: Changes left anywhere, gone over again, and two of one at a time.
func TestChangesLeft(t *testing.T) {
	a, b := of("a", "c", "e", "g", "i", "x"), of("b", "d", "f", "h", "x", "y")
	seq, whole := walk.Changes(a, b), changes(a, b)
	if len(whole) != 10 {
		t.Fatal("changes:", whole)
	}
	for leave := range whole {
		var got []change
		for k, parts := range seq {
			if got = append(got, change{k, parts}); len(got) > leave {
				break
			}
		}
		if !slices.Equal(got, whole[:leave+1]) {
			t.Errorf("left behind %d: %v", leave+1, got)
		}
	}
	n := 0
	for k := range seq {
		inner := 0
		for range seq {
			inner++
		}
		if k != whole[n].key || inner != 10 {
			t.Error("one within the other:", k, inner)
		}
		n++
	}
	if n != 10 {
		t.Error("gone over again:", n)
	}
}

// P8.2: all keys of a, with their values, and those of b that a lacks.
func TestUnion(t *testing.T) {
	var none textMap
	m := of("a", "b", "c")
	a, _ := pmap.Of([]string{"a", "k"}, []string{"1", "2"})
	b, _ := pmap.Of([]string{"k", "l"}, []string{"3", "4"})
	for i, c := range []struct {
		a, b textMap
		want []pair
	}{
		{none, none, nil},
		{m, none, told(m)},
		{none, m, told(m)},
		{m, m, told(m)},
		{m, of("a", "b", "c"), told(m)},
		{a, b, []pair{{"a", "1"}, {"k", "2"}, {"l", "4"}}},
		{b, a, []pair{{"a", "1"}, {"k", "3"}, {"l", "4"}}},
	} {
		if got := told(walk.Union(c.a, c.b)); !slices.Equal(got, c.want) {
			t.Errorf("%d: %v", i, got)
		}
	}
	base := of("a", "b")
	wantKeys(t, "the example's maps", walk.Union(base.Take("b"), base.Put("c", "vc")), "a", "b", "c")
}
