package walk_test

import (
	"slices"
	"testing"

	"estuary/api"
	"estuary/pmap"
	"estuary/walk"
)

type (
	textMap = pmap.Map[string]
	part    = api.Part[string]
	pair    struct{ key, value string }
)

// of is the map with some keys, each with a value that its key tells.
func of(keys ...string) textMap {
	values := make([]string, len(keys))
	for i, k := range keys {
		values[i] = "v" + k
	}
	m, _ := pmap.Of(keys, values)
	return m
}

func told(m textMap) []pair {
	var l []pair
	for k, v := range m.All() {
		l = append(l, pair{k, v})
	}
	return l
}

func keysOf(m textMap) []string {
	var l []string
	for k := range m.All() {
		l = append(l, k)
	}
	return l
}

func partOf(m textMap, key string) part {
	v, has := m.Get(key)
	return part{Value: v, Has: has}
}

func wantKeys(t *testing.T, what string, m textMap, want ...string) {
	t.Helper()
	if got := keysOf(m); !slices.Equal(got, want) {
		t.Errorf("%s: %q, not %q", what, got, want)
	}
	for k, v := range m.All() {
		if v != "v"+k {
			t.Errorf("%s: %q has %q", what, k, v)
		}
	}
}

func wantCount(t *testing.T, what string, got, want api.Count) {
	t.Helper()
	if got != want {
		t.Errorf("%s: took %+v, not %+v", what, got, want)
	}
}

// P8.1, P8.2, P8.3: the chapter's examples.
func TestExamples(t *testing.T) {
	base := of("a", "b")
	x, y := base.Take("b"), base.Put("c", "vc")
	m, _ := walk.Elements(base, x, y)
	wantKeys(t, "Elements", m, "a", "c")
	m, took := walk.Elements(base, base, y)
	if !m.Same(y) {
		t.Error("Elements of base, base, y is not y")
	}
	wantCount(t, "Elements of base, base, y", took, api.Count{})
	m, took, e := walk.Run(base, x, y, nil)
	if e != api.ErrNil || m.Len() != 0 {
		t.Error("no rule:", e, keysOf(m))
	}
	wantCount(t, "no rule", took, api.Count{})
	n := 0
	for k, parts := range walk.Changes(base, y) {
		if n++; k != "c" || parts != [2]part{{}, {Value: "vc", Has: true}} {
			t.Errorf("Changes: %q %v", k, parts)
		}
	}
	if n != 1 {
		t.Error("Changes tells", n)
	}
}

// P8.1: without a rule ErrNil, whatever the maps, also where no rule would be asked.
func TestNoRule(t *testing.T) {
	m := of("a", "b")
	for _, l := range [][3]textMap{{}, {m, m, m}, {m, m, {}}, {{}, m, of("c")}} {
		got, took, e := walk.Run(l[0], l[1], l[2], nil)
		if e != api.ErrNil || got.Len() != 0 || took != (api.Count{}) {
			t.Error(e, keysOf(got), took)
		}
	}
}

// P8.1: the elements' rule, over all that three maps can have, with values that differ, and values beside what is not there.
func TestKeep(t *testing.T) {
	for has := range 8 {
		base := part{Value: "base", Has: has&1 != 0}
		a := part{Value: "a", Has: has&2 != 0}
		b := part{Value: "b", Has: has&4 != 0}
		var want part
		switch {
		case a.Has && b.Has:
			want = a
		case a.Has && !base.Has:
			want = a
		case b.Has && !a.Has && !base.Has:
			want = b
		}
		for _, key := range []string{"", "k", "\xff"} {
			if v, is := walk.Keep(key, base, a, b); is != want.Has || v != want.Value {
				t.Errorf("base %v, a %v, b %v: %q %v", base.Has, a.Has, b.Has, v, is)
			}
		}
	}
	if v, is := walk.Keep("k", api.Part[*int]{}, api.Part[*int]{}, api.Part[*int]{Has: true}); v != nil || !is {
		t.Error("a nil value that is there:", v, is)
	}
}

// P8.3, P0.4: what is the same in two of three, or in all, is answered as it is, unread.
func TestUnread(t *testing.T) {
	var none textMap
	m, other := of("a", "b", "c", "d", "e"), of("b", "d", "f")
	twin := of("a", "b", "c", "d", "e") // the same keys, other nodes
	for _, c := range []struct {
		name             string
		base, a, b, want textMap
	}{
		{"one three times", m, m, m, m},
		{"none three times", none, none, none, none},
		{"base and a", m, m, other, other},
		{"base and a, twin", m, m, twin, twin},
		{"base and a, no b", m, m, none, none},
		{"base and b", m, other, m, other},
		{"base and b, twin", m, twin, m, twin},
		{"base and b, no a", m, none, m, none},
		{"a and b", other, m, m, m},
		{"a and b, twin", twin, m, m, m},
		{"a and b, no base", none, m, m, m},
		{"no a and no b", m, none, none, none},
		{"no base and no a", none, none, m, m},
		{"no base and no b", none, m, none, m},
	} {
		got, took, e := walk.Run(c.base, c.a, c.b, func(key string, base, a, b part) (string, bool) {
			t.Errorf("%s: asked for %q", c.name, key)
			return walk.Keep(key, base, a, b)
		})
		if e != api.OK || !got.Same(c.want) {
			t.Errorf("%s: %v, %q", c.name, e, keysOf(got))
		}
		wantCount(t, c.name, took, api.Count{})
		got, took = walk.Elements(c.base, c.a, c.b)
		if !got.Same(c.want) {
			t.Errorf("%s: Elements: %q", c.name, keysOf(got))
		}
		wantCount(t, c.name+": Elements", took, api.Count{})
	}
}

// P8.1: what a walk takes, in maps whose nodes are known.
func TestCounts(t *testing.T) {
	var none textMap
	three := of("b", "a", "c") // b above a and c
	for _, c := range []struct {
		name       string
		base, a, b textMap
		want       []string
		took       api.Count
	}{
		// a's node is read; b's one stands beside it unread, and stays.
		{"two apart", none, of("a"), of("b"), []string{"a", "b"}, api.Count{Reads: 1, Rules: 1, Made: 1}},
		{"two apart, the other way", none, of("b"), of("a"), []string{"a", "b"}, api.Count{Reads: 1, Rules: 1, Made: 1}},
		// a has no node: b's is read; base has its key, in a node of its own.
		{"gone in a", of("k"), none, of("k"), nil, api.Count{Reads: 1, Rules: 1}},
		{"gone in b", of("k"), of("k"), none, nil, api.Count{Reads: 1, Rules: 1}},
		{"in all, apart", of("k"), of("k"), of("k"), []string{"k"}, api.Count{Reads: 1, Rules: 1, Made: 1}},
		{"in a and b, apart", none, of("k"), of("k"), []string{"k"}, api.Count{Reads: 1, Rules: 1, Made: 1}},
		// Each side of the root is the same in two of them: just the root is read.
		{"sides that share", three, three.Put("d", "vd"), three.Put("A", "vA"), []string{"A", "a", "b", "c", "d"}, api.Count{Reads: 1, Rules: 1, Made: 1}},
		{"both take", three, three.Take("a"), three.Take("c"), []string{"b"}, api.Count{Reads: 1, Rules: 1, Made: 1}},
		// At a's b the other one is split: its c stands above a there, and is made anew without it.
		{"the root is taken", three, three.Take("a"), three.Take("b"), []string{"c"}, api.Count{Reads: 1, Rules: 1, Made: 1}},
		// The sides of the root are twins: all is read, and made anew.
		{"twins", of("b", "a", "c"), of("b", "a", "c"), of("b", "a", "c"), []string{"a", "b", "c"}, api.Count{Reads: 3, Rules: 3, Made: 3}},
		// Where just base has a key, it is not asked for; beside it b's node is read, as base has a node there, too.
		{"just base has it, ahead", of("A"), of("a"), of("b"), []string{"a", "b"}, api.Count{Reads: 1, Rules: 1, Made: 1}},
		{"just base has it, behind", of("x"), of("a"), of("b"), []string{"a", "b"}, api.Count{Reads: 2, Rules: 2, Made: 2}},
	} {
		got, took := walk.Elements(c.base, c.a, c.b)
		wantKeys(t, c.name, got, c.want...)
		wantCount(t, c.name, took, c.took)
	}
}

// P8.1: a key that a lacks is read at b's node, and one that only base has is not asked for.
func TestAsked(t *testing.T) {
	type asked struct {
		key        string
		base, a, b part
	}
	ask := func(base, a, b textMap) []asked {
		var l []asked
		walk.Run(base, a, b, func(key string, base, a, b part) (string, bool) {
			l = append(l, asked{key, base, a, b})
			return walk.Keep(key, base, a, b)
		})
		return l
	}
	there := func(v string) part { return part{Value: v, Has: true} }
	base, _ := pmap.Of([]string{"k", "z"}, []string{"1", "0"})
	a, _ := pmap.Of([]string{"k"}, []string{"2"})
	b, _ := pmap.Of([]string{"k"}, []string{"3"})
	var none textMap
	for i, c := range []struct {
		base, a, b textMap
		want       asked
	}{
		{base, a, b, asked{"k", there("1"), there("2"), there("3")}},
		{none, a, b, asked{"k", part{}, there("2"), there("3")}},
		{base, none, b, asked{"k", there("1"), part{}, there("3")}},
		{base, a, none, asked{"k", there("1"), there("2"), part{}}},
	} {
		if got := ask(c.base, c.a, c.b); !slices.Equal(got, []asked{c.want}) {
			t.Errorf("%d: %v", i, got)
		}
	}
	// Both sides are run together ahead of the key between them.
	var order []string
	for _, x := range ask(of("b", "a", "c"), of("b", "a", "c"), of("b", "a", "c")) {
		order = append(order, x.key)
	}
	if !slices.Equal(order, []string{"a", "c", "b"}) {
		t.Error("asked in the order", order)
	}
}

// P8.1: what the rule answers is what the key has then; a value beside a false is none.
func TestRuleAnswers(t *testing.T) {
	base, a, b := of("a", "b", "c", "d", "e"), of("a", "b", "c", "d", "e"), of("a", "b", "c", "d", "e")
	got, _, e := walk.Run(base, a, b, func(key string, base, a, b part) (string, bool) {
		return key + "!", key != "c" && key != "e"
	})
	if want := []pair{{"a", "a!"}, {"b", "b!"}, {"d", "d!"}}; e != api.OK || !slices.Equal(told(got), want) {
		t.Error(e, told(got))
	}
	got, took, e := walk.Run(base, a, b, func(key string, base, a, b part) (string, bool) { return key, false })
	if e != api.OK || got.Root() != nil {
		t.Error("all gone:", e, told(got))
	}
	wantCount(t, "all gone", took, api.Count{Reads: 5, Rules: 5})
}

// P8.1: keys are any bytes, the empty one too; values are of any kind.
func TestAnyKeys(t *testing.T) {
	base, a, b := of("", "\x00"), of("", "\xff", "\x00\x00"), of("\x00", "é")
	m, _ := walk.Elements(base, a, b)
	wantKeys(t, "any bytes", m, "\x00\x00", "é", "\xff")
	x, _ := pmap.Of([]string{"l"}, [][]int{{1, 2}})
	y, _ := pmap.Of([]string{"l", "m"}, [][]int{{1, 2}, nil})
	n, _ := walk.Elements(pmap.Map[[]int]{}, x, y)
	l, is := n.Get("l")
	if none, there := n.Get("m"); n.Len() != 2 || !is || !slices.Equal(l, []int{1, 2}) || none != nil || !there {
		t.Error("lists as values:", n.Len(), l, none)
	}
}
