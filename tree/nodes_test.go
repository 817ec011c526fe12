package tree_test

import (
	"math"
	"math/rand"
	"slices"
	"strings"
	"testing"

	"estuary/api"
	"estuary/journal"
	"estuary/kinds"
	"estuary/tagset"
	"estuary/tree"
)

func element(gen int64, text string) api.Element { return api.Element{Stamp: at(gen), Text: text} }

// tags and entries are maps that may be a set, and one of the three others.
func tags(t *testing.T, l ...api.Element) elements {
	t.Helper()
	m, e := tagset.Of(l...)
	if e != api.OK {
		t.Fatal("tags:", e)
	}
	return m
}

func entries(t *testing.T, l ...api.Element) elements {
	t.Helper()
	m, e := journal.Of(l...)
	if e != api.OK {
		t.Fatal("entries:", e)
	}
	return m
}

// ofKind is a thing with something in it that its kind has.
func ofKind(t *testing.T, kind api.Kind) tree.Thing {
	t.Helper()
	switch kind {
	case api.Counter:
		return tree.Thing{Kind: kind, Number: -5}
	case api.Set:
		return tree.Thing{Kind: kind, Elements: tags(t, element(1, "x"), element(2, "x"), element(2000, ""))}
	case api.Map:
		return ofMap(things{}.Put("\x01c", tree.Thing{Kind: api.Counter, Number: 1}))
	}
	return tree.Thing{Kind: kind, Elements: entries(t, element(1, "x"), element(2, "x"), element(2000, ""))}
}

// own is the thing's key of a kind and the key k.
func own(kind api.Kind) string { return string([]byte{byte(kind)}) + "k" }

// wantOf holds Of of a map against what it must be: at the root and within maps, beside other things.
func wantOf(t *testing.T, what string, m things, may bool) {
	t.Helper()
	for deep := 0; deep <= 2; deep++ {
		got, e := tree.Of(m)
		switch {
		case may && (e != api.OK || !got.Map().Same(m)):
			t.Errorf("%s, %d deep: %v", what, deep, e)
		case !may && (e != api.ErrArg || !got.Same(tree.Tree{})):
			t.Errorf("%s, %d deep: %v, %v", what, deep, e, got.Show())
		}
		m = things{}.Put(mapKey("m"), ofMap(m)).Put("\x01a", tree.Thing{Kind: api.Counter}).Put(mapKey("z"), ofMap(things{}))
	}
}

// P15.4: Of of things of each kind, under each key; with what their kind has, and with more.
func TestOfThings(t *testing.T) {
	for kind := api.Counter; kind <= api.Map; kind++ {
		x := ofKind(t, kind)
		wantOf(t, "a thing", things{}.Put(own(kind), x), true)
		wantOf(t, "an empty one", things{}.Put(own(kind), tree.Thing{Kind: kind}), true)
		for _, key := range []string{"", own(kind)[:1], "k", "\x00k", "\x07k", own(kind) + "/", own(kind) + "\x1f", own(kind) + "\xff", own(kind) + strings.Repeat("k", api.MaxKey)} {
			wantOf(t, "a key that is none", things{}.Put(key, x), false)
		}
		wantOf(t, "a long key", things{}.Put(own(kind)+strings.Repeat("k", api.MaxKey-1), x), true)
		for other := api.Kind(-1); other <= api.Map+1; other++ {
			if other == kind {
				continue
			}
			y := x
			y.Kind = other
			wantOf(t, "another kind than its key's", things{}.Put(own(kind), y), false)
		}
		y := x
		y.Kind += 256
		wantOf(t, "a kind that goes round", things{}.Put(own(kind), y), false)
		if kind != api.Counter {
			y := x
			y.Number = 1
			wantOf(t, "a number", things{}.Put(own(kind), y), false)
		}
		if kind != api.Map {
			y := x
			y.Things = things{}.Put("\x01c", tree.Thing{Kind: api.Counter})
			wantOf(t, "things", things{}.Put(own(kind), y), false)
		}
		if kind == api.Counter || kind == api.Map {
			for _, m := range []elements{tags(t, element(1, "x")), entries(t, element(1, "x"))} {
				y := x
				y.Elements = m
				wantOf(t, "elements", things{}.Put(own(kind), y), false)
			}
		}
	}
}

// P15.4: Of of elements that may not be.
func TestOfElements(t *testing.T) {
	for kind := api.Set; kind <= api.Journal; kind++ {
		good, wrong := tags(t, element(1, "x")), entries(t, element(1, "x"))
		if kind != api.Set {
			good, wrong = wrong, good
		}
		long := strings.Repeat("x", api.MaxText+1)
		key, _, _ := good.First()
		for may, l := range map[bool][]elements{
			true:  {good, {}},
			false: {wrong, good.Put("", "x"), good.Put("k", "x"), good.Put(key, long), good.Put(key+"x", "x")},
		} {
			for _, m := range l {
				wantOf(t, kinds.Word(kind), things{}.Put(own(kind), tree.Thing{Kind: kind, Elements: m}), may)
			}
		}
	}
	// A set's tag tells its text twice; the others' elements have theirs under the stamp alone.
	set := tags(t, element(1, "x"))
	key, _, _ := set.First()
	wantOf(t, "a tag of another text", things{}.Put(own(api.Set), tree.Thing{Kind: api.Set, Elements: set.Put(key, "y")}), false)
	wantOf(t, "one stamp with two texts", things{}.Put(own(api.Set), tree.Thing{Kind: api.Set, Elements: set.Put(tagKey(t, "y", at(1)), "y")}), true)
}

func tagKey(t *testing.T, text string, s api.Stamp) string {
	t.Helper()
	key, e := tagset.Key(text, s)
	if e != api.OK {
		t.Fatal("a tag's key:", e)
	}
	return key
}

// chain is a map with so many maps below it, one within the other, and a counter in the last one.
func chain(n int) things {
	m := things{}.Put("\x01c", tree.Thing{Kind: api.Counter})
	for range n {
		m = things{}.Put(mapKey("m"), ofMap(m))
	}
	return m
}

// P15.4: Of of maps as deep as they may be, and deeper; also where one map stands at several places, of which just some are too deep.
func TestOfDeep(t *testing.T) {
	for n := range 12 {
		_, e := tree.Of(chain(n))
		if (e == api.OK) != (n <= api.MaxDepth) || e != api.OK && e != api.ErrArg {
			t.Errorf("%d maps below the root: %v", n, e)
		}
	}
	for n := range 8 {
		m := chain(n)
		for deep := range 8 {
			place := m
			for range deep {
				place = things{}.Put(mapKey("m"), ofMap(place))
			}
			want := n+1 <= api.MaxDepth && deep+n+1 <= api.MaxDepth
			for _, keys := range [][2]string{{"a", "b"}, {"b", "a"}} {
				both := things{}.Put(mapKey(keys[0]), ofMap(m)).Put(mapKey(keys[1]), ofMap(place))
				if _, e := tree.Of(both); (e == api.OK) != want {
					t.Errorf("%d maps, and again %d below: %v", n, deep, e)
				}
			}
		}
	}
	empty := things{}
	for n := range 9 {
		if _, e := tree.Of(empty); (e == api.OK) != (n <= api.MaxDepth) {
			t.Errorf("%d maps below the root, the last one empty: %v", n, e)
		}
		empty = things{}.Put(mapKey("m"), ofMap(empty))
	}
	if _, e := tree.Of(chain(1 << 15)); e != api.ErrArg {
		t.Error("very deep:", e)
	}
	// What an operation can reach is just what Of takes.
	o := add(deep(api.MaxDepth), "c", 0)
	if m := done(t, tree.Tree{}, 1, o); !m.Alike(must(t, chain(api.MaxDepth))) {
		t.Error("the deepest map:", m.Show())
	}
}

func must(t *testing.T, m things) tree.Tree {
	t.Helper()
	o, e := tree.Of(m)
	if e != api.OK {
		t.Fatal("Of:", e)
	}
	return o
}

// P15.4: a map that stands at many places: its nodes are the tree's, each once, and Of asks it in no more time than it has.
func TestOneMapOften(t *testing.T) {
	el := entries(t, element(1, "x"), element(2, "y"), element(3, "z"))
	m := must(t, things{}.Put(own(api.Queue), tree.Thing{Kind: api.Queue, Elements: el}).Put(own(api.Journal), tree.Thing{Kind: api.Journal, Elements: el}))
	if m.Len() != 5 || m.Shared(m) != 5 || !slices.Equal(levelsOf(m), []level{{"", 2}, {"k", 3}, {"k", 3}}) {
		t.Error("elements of two things:", m.Len(), m.Shared(m), levelsOf(m))
	}
	const wide = 200
	at := things{}.Put("\x01c", tree.Thing{Kind: api.Counter})
	for range api.MaxDepth {
		var next things
		for i := range wide {
			next = next.Put(mapKey(number(i)), ofMap(at))
		}
		at = next
	}
	m = must(t, at)
	if want := wide*api.MaxDepth + 1; m.Len() != want || m.Shared(m) != want || !m.Alike(m) {
		t.Error("maps at very many places:", m.Len(), m.Shared(m))
	}
	if _, e := tree.Of(things{}.Put(mapKey("m"), ofMap(at))); e != api.ErrArg {
		t.Error("one deeper:", e)
	}
}

// P15.4: a thing's key: its kind's byte, its own key's bytes.
func TestKey(t *testing.T) {
	long := strings.Repeat("é", api.MaxKey/2)
	for kind := api.Counter; kind <= api.Map; kind++ {
		for _, key := range []string{"k", " ", "a b", "\x7f", long} {
			if got, e := tree.Key(kind, key); e != api.OK || got != string([]byte{byte(kind)})+key {
				t.Errorf("Key(%d, %q): %q, %v", kind, key, got, e)
			}
		}
		for _, key := range []string{"", "a/b", "/", "\x00", "\x1f", "\xff", "\xed\xa0\x80", long + "x", strings.Repeat("k", 1<<16)} {
			if got, e := tree.Key(kind, key); e != api.ErrArg || got != "" {
				t.Errorf("Key(%d, %.20q): %q, %v", kind, key, got, e)
			}
		}
	}
	for _, kind := range []api.Kind{0, -1, 7, 255, 256, 257, 262, math.MinInt, math.MaxInt} {
		for _, key := range []string{"k", "", "/"} {
			if got, e := tree.Key(kind, key); e != api.ErrArg || got != "" {
				t.Errorf("Key(%d, %q): %q, %v", kind, key, got, e)
			}
		}
	}
}

// wantAlike: are two trees alike, either one asked; each one is alike itself.
func wantAlike(t *testing.T, what string, a, b tree.Tree, want bool) {
	t.Helper()
	if a.Alike(b) != want || b.Alike(a) != want || !a.Alike(a) || !b.Alike(b) {
		t.Errorf("%s: alike: %v, %v; itself: %v, %v", what, a.Alike(b), b.Alike(a), a.Alike(a), b.Alike(b))
	}
}

// P15.4: Alike of trees that tell the same or not, at the root and within maps.
func TestAlike(t *testing.T) {
	for _, path := range []string{"", "m", deep(api.MaxDepth)} {
		for i, o := range eachDo(path) {
			m := done(t, tree.Tree{}, 1, o)
			wantAlike(t, "made twice", m, done(t, tree.Tree{}, 1, o), true)
			wantAlike(t, "with none", m, tree.Tree{}, false)
			for j, other := range eachDo(path) {
				n := done(t, tree.Tree{}, 1, other)
				same := i == j || o.Kind == other.Kind && m.Map().Len() == 1 && slices.EqualFunc(m.Show(), n.Show(), sameLine)
				wantAlike(t, "of two Dos", m, n, same)
			}
			o.Key = "other"
			wantAlike(t, "of two keys", m, done(t, tree.Tree{}, 1, o), false)
		}
		for _, o := range []api.Op{insert(path, "k", "x"), write(path, "k", "x"), push(path, "k", "x"), appendOf(path, "k", "x")} {
			one, two := done(t, tree.Tree{}, 1, o), done(t, tree.Tree{}, 2, o)
			if !slices.EqualFunc(one.Show(), two.Show(), sameLine) {
				t.Error("shown:", one.Show(), two.Show())
			}
			wantAlike(t, "one text under two stamps", one, two, false)
			o.Text = "y"
			wantAlike(t, "two texts under one stamp", one, done(t, tree.Tree{}, 1, o), false)
		}
		base := done(t, tree.Tree{}, 1, eachDo(path)...)
		wantAlike(t, "one counter more", base, done(t, base, 9, add(path, "d", 0)), false)
		wantAlike(t, "one number more", base, done(t, base, 9, add(path, "c", 1)), false)
		wantAlike(t, "there and back", base, done(t, base, 9, add(path, "c", 1), add(path, "c", -1), push(path, "q", "x"), pop(path, "q")), true)
	}
	wantAlike(t, "none", tree.Tree{}, tree.Tree{}, true)
	wantAlike(t, "a map that is empty and none", must(t, things{}.Put(mapKey("m"), ofMap(things{}))), tree.Tree{}, false)
	wantAlike(t, "a map here and there", done(t, tree.Tree{}, 1, add("m", "c", 1)), done(t, tree.Tree{}, 1, add("n", "c", 1)), false)
	wantAlike(t, "a map within another", done(t, tree.Tree{}, 1, add("m/m", "c", 1)), done(t, tree.Tree{}, 1, add("m", "c", 1)), false)
}

// P15.4: trees that were made by the same operations in several orders, or of their own plain lists, are alike, though they share no node.
func TestAlikeApart(t *testing.T) {
	chance := rand.New(rand.NewSource(7))
	var ops []api.Op
	for i := range 40 {
		for _, path := range []string{"", "m", "m/n"} {
			ops = append(ops, add(path, number(i), int64(i)), insert(path, number(i), "x"), appendOf(path, number(i), "x"))
		}
	}
	made := func() tree.Tree {
		var m tree.Tree
		for _, i := range chance.Perm(len(ops)) {
			next, e := m.Do(ops[i], at(int64(i+1)))
			if e != api.OK {
				t.Fatal(e)
			}
			m = next
		}
		return m
	}
	m := made()
	for range 5 {
		n := made()
		wantAlike(t, "in another order", m, n, true)
		if m.Same(n) || m.Shared(n) != 0 {
			t.Error("two that were made apart share", m.Shared(n))
		}
		wantAlike(t, "and one more", m, done(t, n, 9999, add("m/n", number(3), 1)), false)
	}
}

// P15.4: Same, Shared of two trees at several steps of one.
func TestSameShared(t *testing.T) {
	chance := rand.New(rand.NewSource(8))
	l := []grown{{want: plain{}}}
	for range 80 {
		l = append(l, l[len(l)-1].next(t, chance, 0))
	}
	for range 300 {
		a, b := l[chance.Intn(len(l))].m, l[chance.Intn(len(l))].m
		if want := a.Len() - newNodes(a, b); a.Shared(b) != want || b.Shared(a) != want {
			t.Errorf("shared: %d, %d, not %d", a.Shared(b), b.Shared(a), want)
		}
		if want := a.Map().Root() == b.Map().Root(); a.Same(b) != want || b.Same(a) != want {
			t.Errorf("Same: %v", a.Same(b))
		}
	}
}
