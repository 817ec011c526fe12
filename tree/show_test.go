package tree_test

import (
	"math/rand"
	"slices"
	"strings"
	"testing"

	"estuary/api"
	"estuary/keys"
	"estuary/kinds"
	"estuary/tree"
)

// grown is a tree behind operations of all Dos at a few places, by chance, with what it is to hold; its stamps are of one side, from a generation on.
type grown struct {
	m    tree.Tree
	want plain
	gen  int64
}

// next is it behind one more operation of a side.
func (g grown) next(t *testing.T, chance *rand.Rand, side int) grown {
	t.Helper()
	paths := []string{"", "", "", "a", "a/b", "a/b/c", "b", "b/a", "ab", "a b", "é", deep(api.MaxDepth)}
	own := []string{"k", "l", "a", "b", "é", "a b"}
	texts := []string{"", "x", "y", "\x00", "\xff", "x/y"}
	do := api.DoAdd + api.Do(chance.Intn(int(api.DoAppend)))
	o := opOf(paths[chance.Intn(len(paths))], own[chance.Intn(len(own))], do, 0, "")
	if do == api.DoAdd {
		o.Number = chance.Int63n(7) - 3
	} else if do != api.DoPop {
		o.Text = texts[chance.Intn(len(texts))]
	}
	s := stampOf(g.gen+1, side, "a", g.gen+1, chance.Intn(api.MaxOps))
	m, e := g.m.Do(o, s)
	if e != api.OK {
		t.Fatalf("Do %+v: %v", o, e)
	}
	return grown{m, g.want.behind(t, o, s), g.gen + 1}
}

// P15.1, P15.2, P15.4: trees under operations of all kinds, at the root and within maps, against layer 9's values; elder trees stay as they were.
func TestGrown(t *testing.T) {
	chance := rand.New(rand.NewSource(15))
	for round := range 6 {
		l := []grown{{want: plain{}}}
		for range 70 {
			l = append(l, l[len(l)-1].next(t, chance, round%api.MaxRepos))
			g := l[len(l)-1]
			wantTree(t, "grown", g.m, g.want)
		}
		for _, g := range l {
			wantTree(t, "an elder one", g.m, g.want)
		}
	}
}

// P15.2: the zero tree tells nothing.
func TestZero(t *testing.T) {
	var m tree.Tree
	wantTree(t, "the zero tree", m, plain{})
	if m.Show() != nil || m.Len() != 0 || m.Map().Len() != 0 || !m.Same(m) || !m.Alike(m) || m.Shared(m) != 0 {
		t.Error("the zero tree:", m.Show(), m.Len())
	}
	if l := levelsOf(m); !slices.Equal(l, []level{{"", 0}}) {
		t.Error("its levels:", l)
	}
}

// P15.2: the order of lines: a map's own things ahead of those of the maps within it; of one path by kinds, of one kind by keys, byte by byte.
func TestShowOrder(t *testing.T) {
	places := []struct {
		path string
		kind api.Kind
		key  string
	}{
		{"", api.Counter, "a"}, {"", api.Counter, "a b"}, {"", api.Counter, "ab"}, {"", api.Counter, "z"}, {"", api.Counter, "é"}, {"", api.Counter, "\U0010ffff"},
		{"", api.Set, "a"}, {"", api.Register, "a"}, {"", api.Queue, "a"}, {"", api.Queue, "b"}, {"", api.Journal, "a"},
		{"a", api.Counter, "z"}, {"a", api.Journal, "a"}, {"a/a", api.Counter, "z"}, {"a/b", api.Counter, "a"}, {"a/b/a", api.Set, "a"}, {"a/c", api.Counter, "a"},
		{"a b", api.Counter, "a"}, {"ab", api.Counter, "a"}, {"b", api.Journal, "a"}, {"é", api.Counter, "a"},
	}
	does := map[api.Kind]api.Do{api.Counter: api.DoAdd, api.Set: api.DoInsert, api.Register: api.DoWrite, api.Queue: api.DoPush, api.Journal: api.DoAppend}
	chance := rand.New(rand.NewSource(2))
	for range 20 {
		var m tree.Tree
		for _, i := range chance.Perm(len(places)) {
			p := places[i]
			m = done(t, m, 1, opOf(p.path, p.key, does[p.kind], 0, ""))
		}
		l := m.Show()
		if len(l) != len(places) {
			t.Fatal("lines:", l)
		}
		for i, p := range places {
			if strings.Join(l[i].Path, "/") != p.path || l[i].Kind != p.kind || l[i].Key != p.key {
				t.Errorf("line %d: %v, not %v", i, l[i], p)
			}
			if at := placeOf(l[i].Path, l[i].Kind, l[i].Key); i > 0 && keys.CmpPlace(placeOf(l[i-1].Path, l[i-1].Kind, l[i-1].Key), at) >= 0 {
				t.Errorf("line %d is not behind the one ahead", i)
			}
		}
	}
}

// P15.2: Line and Has of what is not there, or a map, or may not be.
func TestLineHas(t *testing.T) {
	m := done(t, tree.Tree{}, 1, eachDo("")...)
	m = done(t, m, 20, eachDo("m/n")...)
	m = done(t, m, 40, eachDo(deep(api.MaxDepth))...)
	for _, c := range []struct {
		path      string
		kind      api.Kind
		key       string
		has, line bool
	}{
		{"", api.Counter, "c", true, true}, {"", api.Set, "s", true, true}, {"", api.Register, "r", true, true}, {"", api.Queue, "q", true, true}, {"", api.Journal, "j", true, true},
		{"", api.Map, "m", true, false}, {"m", api.Map, "n", true, false}, {"m/n", api.Set, "s", true, true}, {"m", api.Set, "s", false, false},
		{deep(api.MaxDepth - 1), api.Map, "m", true, false}, {deep(api.MaxDepth), api.Queue, "q", true, true}, {deep(api.MaxDepth), api.Map, "m", false, false}, {deep(api.MaxDepth + 1), api.Queue, "q", false, false},
		{"", api.Counter, "m", false, false}, {"", api.Map, "c", false, false}, {"c", api.Counter, "c", false, false}, {"s", api.Counter, "c", false, false},
		{"", 0, "c", false, false}, {"", -1, "c", false, false}, {"", 7, "c", false, false}, {"", 256 + api.Counter, "c", false, false}, {"", 256 + api.Map, "m", false, false},
		{"", api.Counter, "", false, false}, {"", api.Counter, "x", false, false}, {"", api.Map, "m/n", false, false}, {"m//n", api.Set, "s", false, false}, {"/m", api.Set, "s", false, false},
		{"", api.Counter, strings.Repeat("c", 1<<16), false, false}, {strings.Repeat("m/", 1<<16), api.Counter, "c", false, false},
	} {
		if has := m.Has(pathOf(c.path), c.kind, c.key); has != c.has {
			t.Errorf("Has %.20q %d %.20q: %v", c.path, c.kind, c.key, has)
		}
		line, has := m.Line(pathOf(c.path), c.kind, c.key)
		if zero := sameLine(line, api.Line{}); has != c.line || zero == c.line {
			t.Errorf("Line %.20q %d %.20q: %v, %v", c.path, c.kind, c.key, line, has)
		}
	}
}

type name struct {
	kind api.Kind
	key  string
}

func namesOf(m tree.Tree, path []string) []name {
	var l []name
	for kind, key := range m.Names(path) {
		l = append(l, name{kind, key})
	}
	return l
}

// P15.2: Names of the root, of maps, of no map.
func TestNames(t *testing.T) {
	m := done(t, tree.Tree{}, 1, add("", "z", 1), add("", "a", 1), insert("", "a", "x"), pop("", "b"), write("m/n", "r", "x"), appendOf("m", "j", "x"), add("l", "c", 1))
	for path, want := range map[string][]name{
		"":      {{api.Counter, "a"}, {api.Counter, "z"}, {api.Set, "a"}, {api.Queue, "b"}, {api.Map, "l"}, {api.Map, "m"}},
		"m":     {{api.Journal, "j"}, {api.Map, "n"}},
		"m/n":   {{api.Register, "r"}},
		"l":     {{api.Counter, "c"}},
		"a":     nil,
		"n":     nil,
		"m/n/r": nil,
		"m/":    nil,
		"/":     nil,
		deep(7): nil,
	} {
		if got := namesOf(m, pathOf(path)); !slices.Equal(got, want) {
			t.Errorf("Names of %q: %v", path, got)
		}
	}
}

// P15.2, P15.4: Names and Levels left anywhere, gone over again, and one within the other.
func TestLeft(t *testing.T) {
	m := done(t, tree.Tree{}, 1, eachDo("")...)
	m = done(t, m, 20, eachDo("m")...)
	m = done(t, m, 40, eachDo("m/n/o")...)
	m = done(t, m, 60, eachDo("p")...)
	names, levels := m.Names([]string{"m"}), m.Levels()
	wantNames, wantLevels := namesOf(m, []string{"m"}), levelsOf(m)
	if len(wantNames) != 6 || len(wantLevels) != 21 {
		t.Fatal("names, levels:", wantNames, wantLevels)
	}
	for leave := range wantLevels {
		var l []level
		for keys, nodes := range levels {
			if l = append(l, level{keys, nodes}); len(l) > leave {
				break
			}
		}
		if !slices.Equal(l, wantLevels[:leave+1]) {
			t.Errorf("Levels left behind %d: %v", leave+1, l)
		}
	}
	for leave := range wantNames {
		var l []name
		for kind, key := range names {
			if l = append(l, name{kind, key}); len(l) > leave {
				break
			}
		}
		if !slices.Equal(l, wantNames[:leave+1]) {
			t.Errorf("Names left behind %d: %v", leave+1, l)
		}
	}
	outer := 0
	for range names {
		n := 0
		for range levels {
			for range names {
				n++
			}
		}
		if n != 6*21 {
			t.Error("one within the other:", n)
		}
		outer++
	}
	if outer != 6 {
		t.Error("gone over again:", outer)
	}
}

// P15.4: the keys that lead to each map, the root's first; what is within a map behind it, ahead of the next one.
func TestLevels(t *testing.T) {
	m := done(t, tree.Tree{}, 1, add("", "c", 1), insert("", "k", "x"), insert("", "k", "y"), remove("", "e", "x"), write("", "k", "x"), push("", "k", "x"), push("", "k", "x"),
		appendOf("", "k", "x"), add("k", "c", 1), add("k", "d", 1), insert("k/k", "s", "x"), insert("k/k", "s", "y"), add("l", "c", 1), pop("l/a", "q"), add("a b", "c", 1))
	want := []level{
		{"", 9}, {"e", 0}, {"k", 2}, {"k", 1}, {"k", 2}, {"k", 1}, {"a b", 1}, {"k", 3}, {"k/k", 1}, {"k/k/s", 2}, {"l", 2}, {"l/a", 1}, {"l/a/q", 0},
	}
	if l := levelsOf(m); !slices.Equal(l, want) {
		t.Errorf("Levels: %v, not %v", l, want)
	}
}

// P15.2: what is shown of each kind is what layer 9 shows, also where nothing is left.
func TestShowKinds(t *testing.T) {
	for _, path := range []string{"", "m"} {
		m := done(t, tree.Tree{}, 1, insert(path, "k", "b"), insert(path, "k", "a"), insert(path, "k", "b"),
			push(path, "k", "b"), push(path, "k", "a"), push(path, "k", "b"), appendOf(path, "k", "b"), appendOf(path, "k", "a"), appendOf(path, "k", "b"), remove(path, "e", "x"), pop(path, "e"), add(path, "e", 0))
		a, b := done(t, m, 20, write(path, "k", "b")), done(t, m, 21, write(path, "k", "a"))
		m, _ = tree.Merge(m, a, b)
		for kind, texts := range map[api.Kind]string{api.Set: "a b", api.Register: "b a", api.Queue: "b a b", api.Journal: "b a b"} {
			line, has := m.Line(pathOf(path), kind, "k")
			if !has || !slices.Equal(line.Texts, strings.Fields(texts)) || line.Number != 0 {
				t.Errorf("%s: %v", kinds.Word(kind), line)
			}
		}
		for _, kind := range []api.Kind{api.Counter, api.Set, api.Queue} {
			if line, has := m.Line(pathOf(path), kind, "e"); !has || len(line.Texts) != 0 || line.Number != 0 {
				t.Errorf("%s: %v, %v", kinds.Word(kind), line, has)
			}
		}
	}
}
