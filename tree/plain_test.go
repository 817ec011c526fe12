package tree_test

import (
	"maps"
	"slices"
	"strconv"
	"strings"
	"testing"

	"estuary/api"
	"estuary/journal"
	"estuary/keys"
	"estuary/kinds"
	"estuary/pmap"
	"estuary/queue"
	"estuary/register"
	"estuary/tagset"
	"estuary/tree"
)

type (
	things   = pmap.Map[tree.Thing]
	elements = pmap.Map[string]
)

// at is a stamp of a generation.
func at(gen int64) api.Stamp { return stampOf(gen, 0, "a", 1, 0) }

func stampOf(gen int64, repo int, label string, number int64, index int) api.Stamp {
	return api.Stamp{Gen: gen, Name: nameOf(repo, label, number), Index: index}
}

func nameOf(repo int, label string, number int64) api.Name {
	return api.Name{Branch: api.Branch{Repo: repo, Label: label}, Number: number}
}

// pathOf is the path of keys with '/' between each two.
func pathOf(s string) []string {
	if s == "" {
		return nil
	}
	return strings.Split(s, "/")
}

func opOf(path, key string, do api.Do, number int64, text string) api.Op {
	return api.Op{Path: pathOf(path), Kind: kinds.Of(do), Key: key, Do: do, Number: number, Text: text}
}

func add(path, key string, n int64) api.Op   { return opOf(path, key, api.DoAdd, n, "") }
func insert(path, key, text string) api.Op   { return opOf(path, key, api.DoInsert, 0, text) }
func remove(path, key, text string) api.Op   { return opOf(path, key, api.DoRemove, 0, text) }
func write(path, key, text string) api.Op    { return opOf(path, key, api.DoWrite, 0, text) }
func push(path, key, text string) api.Op     { return opOf(path, key, api.DoPush, 0, text) }
func pop(path, key string) api.Op            { return opOf(path, key, api.DoPop, 0, "") }
func appendOf(path, key, text string) api.Op { return opOf(path, key, api.DoAppend, 0, text) }
func mapKey(key string) string               { return string([]byte{byte(api.Map)}) + key }
func ofMap(m things) tree.Thing              { return tree.Thing{Kind: api.Map, Things: m} }
func placeOf(path []string, k api.Kind, key string) api.Place {
	return api.Place{Path: path, Kind: k, Key: key}
}

// done is t behind operations, each a generation behind the other from gen on.
func done(t *testing.T, m tree.Tree, gen int64, ops ...api.Op) tree.Tree {
	t.Helper()
	for i, o := range ops {
		next, e := m.Do(o, at(gen+int64(i)))
		if e != api.OK {
			t.Fatalf("Do %d %v: %v", i, o, e)
		}
		m = next
	}
	return m
}

// thing is what a tree has at a place: a value as a plain list, or a map.
type thing struct {
	place api.Place
	value api.Value
}

// plain is all that a tree has, by its places' names.
type plain map[string]thing

func nameAt(p api.Place) string {
	return strings.Join(p.Path, "/") + "|" + strconv.Itoa(int(p.Kind)) + "|" + p.Key
}

func (p plain) has(place api.Place) bool {
	_, has := p[nameAt(place)]
	return has
}

// behind is what an operation makes of it, by layer 9.
func (p plain) behind(t *testing.T, o api.Op, s api.Stamp) plain {
	t.Helper()
	p = maps.Clone(p)
	if p == nil {
		p = plain{}
	}
	for i, key := range o.Path {
		place := placeOf(slices.Clone(o.Path[:i]), api.Map, key)
		p[nameAt(place)] = thing{place: place}
	}
	place := placeOf(slices.Clone(o.Path), o.Kind, o.Key)
	was, has := p[nameAt(place)]
	if !has {
		was.place = place
		was.value, _ = kinds.Empty(o.Kind)
	}
	v, e := kinds.Apply(was.value, s, o)
	if e != api.OK {
		t.Fatalf("layer 9: %v: %v", o, e)
	}
	p[nameAt(place)] = thing{place, v}
	return p
}

// three is three of them run together, thing by thing, by layer 9.
func three(t *testing.T, base, a, b plain) plain {
	t.Helper()
	p := plain{}
	maps.Copy(p, b)
	for name, x := range a {
		y, both := b[name]
		p[name] = x
		if !both || x.place.Kind == api.Map {
			continue
		}
		from, has := base[name]
		if !has {
			from.value, _ = kinds.Empty(x.place.Kind)
		}
		v, e := kinds.Three(from.value, x.value, y.value)
		if e != api.OK {
			t.Fatalf("layer 9: %v", e)
		}
		p[name] = thing{x.place, v}
	}
	return p
}

// sorted is all things, in the order of places.
func (p plain) sorted() []thing {
	return slices.SortedFunc(maps.Values(p), func(x, y thing) int { return keys.CmpPlace(x.place, y.place) })
}

// lines is what Show must tell.
func (p plain) lines() []api.Line {
	var l []api.Line
	for _, x := range p.sorted() {
		if x.place.Kind == api.Map {
			continue
		}
		number, texts, _ := kinds.Show(x.value)
		l = append(l, api.Line{Path: x.place.Path, Kind: x.place.Kind, Key: x.place.Key, Number: number, Texts: texts})
	}
	return l
}

// within is the things of the map at a path, by kinds and keys.
func (p plain) within(path []string) []thing {
	return slices.DeleteFunc(p.sorted(), func(x thing) bool { return !slices.Equal(x.place.Path, path) })
}

// paths is the paths of all maps, the root's first.
func (p plain) paths() [][]string {
	l := [][]string{nil}
	for _, x := range p.sorted() {
		if x.place.Kind == api.Map {
			l = append(l, inner(x.place))
		}
	}
	return l
}

func inner(p api.Place) []string { return append(slices.Clone(p.Path), p.Key) }

type level struct {
	keys  string
	nodes int
}

// levels is what Levels must tell.
func (p plain) levels() []level {
	l := []level{{"", len(p.within(nil))}}
	var over func(path []string)
	over = func(path []string) {
		for _, x := range p.within(path) {
			keys := strings.Join(inner(x.place), "/")
			switch x.place.Kind {
			case api.Counter:
			case api.Map:
				l = append(l, level{keys, len(p.within(inner(x.place)))})
				over(inner(x.place))
			default:
				l = append(l, level{keys, len(x.value.Elements)})
			}
		}
	}
	over(nil)
	return l
}

func levelsOf(m tree.Tree) []level {
	var l []level
	for keys, nodes := range m.Levels() {
		l = append(l, level{keys, nodes})
	}
	return l
}

// plainOf is all that a tree has, as its map tells it.
func plainOf(t *testing.T, m things) plain {
	t.Helper()
	p := plain{}
	var over func(path []string, m things)
	over = func(path []string, m things) {
		for key, x := range m.All() {
			if key == "" || api.Kind(key[0]) != x.Kind {
				t.Fatalf("at %q the kind %d under the key %q", path, x.Kind, key)
			}
			place := placeOf(slices.Clone(path), x.Kind, key[1:])
			v := api.Value{Kind: x.Kind, Number: x.Number, Elements: elementsOf(t, x)}
			if x.Kind == api.Map {
				v = api.Value{}
			}
			if (x.Kind != api.Map && x.Things.Len() > 0) || (x.Kind != api.Counter && x.Number != 0) {
				t.Fatalf("at %v: %+v has what is none of its kind's", place, x)
			}
			p[nameAt(place)] = thing{place, v}
			over(inner(place), x.Things)
		}
	}
	over(nil, m)
	return p
}

func elementsOf(t *testing.T, x tree.Thing) []api.Element {
	t.Helper()
	var l []api.Element
	e := api.OK
	switch x.Kind {
	case api.Set:
		l, e = tagset.Elements(x.Elements)
	case api.Register:
		l, e = register.Elements(x.Elements)
	case api.Queue:
		l, e = queue.Elements(x.Elements)
	case api.Journal:
		l, e = journal.Elements(x.Elements)
	default:
		if x.Elements.Len() > 0 {
			e = api.ErrArg
		}
	}
	if e != api.OK {
		t.Fatalf("the elements of %d: %v", x.Kind, e)
	}
	return l
}

func sameLine(x, y api.Line) bool {
	return slices.Equal(x.Path, y.Path) && x.Kind == y.Kind && x.Key == y.Key && x.Number == y.Number && slices.Equal(x.Texts, y.Texts)
}

// wantTree holds all that a tree tells against plain lists.
func wantTree(t *testing.T, what string, m tree.Tree, want plain) {
	t.Helper()
	got := plainOf(t, m.Map())
	if len(got) != len(want) {
		t.Fatalf("%s: %d things, not %d: %v, not %v", what, len(got), len(want), got, want)
	}
	for name, x := range want {
		if y, has := got[name]; !has || !kinds.Same(x.value, y.value) {
			t.Fatalf("%s: at %s %v, not %v", what, name, y.value, x.value)
		}
	}
	if lines := want.lines(); !slices.EqualFunc(m.Show(), lines, sameLine) {
		t.Fatalf("%s: Show: %v, not %v", what, m.Show(), lines)
	}
	wantAsked(t, what, m, want)
	wantNodes(t, what, m, want)
}

// wantAsked holds Line, Has and Names against plain lists, at each place that is there, and at others.
func wantAsked(t *testing.T, what string, m tree.Tree, want plain) {
	t.Helper()
	for _, path := range append(want.paths(), []string{"none"}, []string{"m", "none"}, []string{"\x00"}, []string{""}) {
		asked := map[string]bool{"none": true, "": true, "a/b": true}
		var names []thing
		for kind, key := range m.Names(path) {
			names = append(names, thing{place: placeOf(path, kind, key)})
			asked[key] = true
		}
		if !slices.EqualFunc(names, want.within(path), func(x, y thing) bool { return keys.CmpPlace(x.place, y.place) == 0 }) {
			t.Fatalf("%s: Names at %q: %v", what, path, names)
		}
		for key := range asked {
			for kind := api.Kind(-1); kind <= api.Map+1; kind++ {
				place := placeOf(path, kind, key)
				x, has := want[nameAt(place)]
				if m.Has(path, kind, key) != has {
					t.Fatalf("%s: Has of %v: %v", what, place, !has)
				}
				var line api.Line
				if has = has && kind != api.Map; has {
					number, texts, _ := kinds.Show(x.value)
					line = api.Line{Path: path, Kind: kind, Key: key, Number: number, Texts: texts}
				}
				if got, is := m.Line(path, kind, key); is != has || !sameLine(got, line) {
					t.Fatalf("%s: Line of %v: %v, %v", what, place, got, is)
				}
			}
		}
	}
}

// wantNodes holds Levels, Len, Map and Of against plain lists and each other.
func wantNodes(t *testing.T, what string, m tree.Tree, want plain) {
	t.Helper()
	levels, sum := levelsOf(m), 0
	if !slices.Equal(levels, want.levels()) {
		t.Fatalf("%s: Levels: %v, not %v", what, levels, want.levels())
	}
	for _, l := range levels {
		sum += l.nodes
	}
	if n := len(nodesOf(m)); m.Len() != sum || n != sum {
		t.Fatalf("%s: Len %d, in the levels %d, told %d", what, m.Len(), sum, n)
	}
	if o, e := tree.Of(m.Map()); e != api.OK || !o.Same(m) || !o.Alike(m) || o.Shared(m) != sum {
		t.Fatalf("%s: Of: %v", what, e)
	}
}

// nodesOf is all nodes of a tree, by their pointers.
func nodesOf(m tree.Tree) map[any]bool {
	l := map[any]bool{}
	var over func(m things)
	over = func(m things) {
		for n := range m.Nodes() {
			l[n] = true
			for n := range n.Value().Elements.Nodes() {
				l[n] = true
			}
			over(n.Value().Things)
		}
	}
	over(m.Map())
	return l
}

// newNodes is how many nodes of a tree are none of the others'.
func newNodes(m tree.Tree, of ...tree.Tree) int {
	l := nodesOf(m)
	for _, o := range of {
		for n := range nodesOf(o) {
			delete(l, n)
		}
	}
	return len(l)
}
