package pmap_test

import (
	"bytes"
	"math"
	"slices"
	"strings"
	"testing"

	"estuary/api"
	"estuary/pmap"
)

type intMap = pmap.Map[int]

type intNode = pmap.Node[int]

// pair is a key and its value, as a model of a map tells them.
type pair struct {
	key   string
	value int
}

func mustOf(t *testing.T, keys []string, values []int) intMap {
	t.Helper()
	m, e := pmap.Of(keys, values)
	if e != api.OK {
		t.Fatalf("Of(%q, %v): %v", keys, values, e)
	}
	return m
}

// pairsOf is keys with their places as values, by the keys' bytes: held against each other without the order of strings.
func pairsOf(keys []string) []pair {
	var l []pair
	for i, k := range keys {
		l = append(l, pair{k, i})
	}
	slices.SortFunc(l, func(a, b pair) int { return bytes.Compare([]byte(a.key), []byte(b.key)) })
	return l
}

func places(n int) []int {
	l := make([]int, n)
	for i := range l {
		l[i] = i
	}
	return l
}

// strange is keys of any bytes: the empty one, beginnings of others, bytes that are no UTF-8.
func strange() []string {
	return []string{"b", "", "\xff", "a", "ab", "a\x00", "\x00", "\x00\x00", "é", "\xff\xff", "\x80", "abc", "aB", "/", "\xc3", "z/\n", strings.Repeat("a", 300)}
}

// orders is all orders of some keys.
func orders(keys []string) [][]string {
	if len(keys) == 0 {
		return [][]string{nil}
	}
	var all [][]string
	for i, k := range keys {
		rest := slices.Delete(slices.Clone(keys), i, i+1)
		for _, l := range orders(rest) {
			all = append(all, append([]string{k}, l...))
		}
	}
	return all
}

// whole holds what each node tells against what its sides are, and answers all of them, a node behind its sides.
func whole(t *testing.T, n *intNode) (l []*intNode, height int) {
	t.Helper()
	if n == nil {
		return nil, 0
	}
	left, hl := whole(t, n.Left())
	right, hr := whole(t, n.Right())
	l = append(append(left, right...), n)
	height = 1 + max(hl, hr)
	if n.Height() != height || n.Len() != len(l) {
		t.Fatalf("node %q: height %d, length %d; it has %d, %d", n.Key(), n.Height(), n.Len(), height, len(l))
	}
	if hl-hr > 1 || hr-hl > 1 {
		t.Fatalf("node %q: sides of the heights %d and %d", n.Key(), hl, hr)
	}
	return l, height
}

// wantWhole: the map is a balanced search tree, and tells of itself what its nodes are.
func wantWhole(t *testing.T, m intMap) {
	t.Helper()
	l, height := whole(t, m.Root())
	if m.Len() != len(l) || m.Height() != height {
		t.Fatalf("a map of %d nodes, %d high, tells %d and %d", len(l), height, m.Len(), m.Height())
	}
	if got := slices.Collect(m.Nodes()); !slices.Equal(got, l) {
		t.Fatalf("Nodes tells %d nodes otherwise than they lie (%d)", len(got), len(l))
	}
	if bound := 1.45 * math.Log2(float64(m.Len()+2)); float64(height) > bound {
		t.Fatalf("%d keys, %d high: above %v", m.Len(), height, bound)
	}
	if (m.Root() == nil) != (len(l) == 0) || !m.Root().Map().Same(m) {
		t.Fatal("Root")
	}
}

func walked(m intMap, from string) []pair {
	var l []pair
	for k, v := range m.From(from) {
		l = append(l, pair{k, v})
	}
	return l
}

// wantTold: the map tells just these, which rise, by each call that tells.
func wantTold(t *testing.T, m intMap, want []pair) {
	t.Helper()
	wantWhole(t, m)
	var all []pair
	for k, v := range m.All() {
		all = append(all, pair{k, v})
	}
	if !slices.Equal(all, want) || m.Len() != len(want) {
		t.Fatalf("All tells %v, %d; want %v", all, m.Len(), want)
	}
	for i, p := range want {
		if v, is := m.Get(p.key); v != p.value || !is {
			t.Fatalf("Get(%q): %v, %v; want %v", p.key, v, is, p.value)
		}
		if k, v, is := m.At(i); k != p.key || v != p.value || !is {
			t.Fatalf("At(%d): %q, %v, %v; want %v", i, k, v, is, p)
		}
	}
	for _, i := range []int{-1, len(want), len(want) + 1, -len(want), math.MinInt, math.MaxInt} {
		if i < 0 || i >= len(want) {
			if k, v, is := m.At(i); k != "" || v != 0 || is {
				t.Fatalf("At(%d) of %d keys: %q, %v, %v", i, len(want), k, v, is)
			}
		}
	}
	var first, last pair
	if len(want) > 0 {
		first, last = want[0], want[len(want)-1]
	}
	if k, v, is := m.First(); (pair{k, v}) != first || is != (len(want) > 0) {
		t.Fatalf("First: %q, %v, %v; want %v", k, v, is, first)
	}
	if k, v, is := m.Last(); (pair{k, v}) != last || is != (len(want) > 0) {
		t.Fatalf("Last: %q, %v, %v; want %v", k, v, is, last)
	}
}

// The chapter's examples.
func TestExamples(t *testing.T) {
	m := mustOf(t, []string{"b", "a", "c"}, []int{2, 1, 3})
	if x, e := pmap.Of([]string{"a", "a"}, []int{1, 2}); e != api.ErrArg || x.Len() != 0 {
		t.Errorf("Of of a key that stands twice: %v, %v", x.Len(), e)
	}
	if m.Len() != 3 || m.Height() != 2 {
		t.Errorf("Len %d, Height %d", m.Len(), m.Height())
	}
	wantTold(t, m, []pair{{"a", 1}, {"b", 2}, {"c", 3}})
	if !m.Take("x").Same(m) {
		t.Error("Take of a key that is not there is another map")
	}
	if v, is := m.Take("b").Get("b"); v != 0 || is {
		t.Errorf("Get of what was taken: %v, %v", v, is)
	}
	n := m.Put("c", 9)
	wantTold(t, n, []pair{{"a", 1}, {"b", 2}, {"c", 9}})
	wantTold(t, m, []pair{{"a", 1}, {"b", 2}, {"c", 3}})
	if pmap.Shared(m, n) != 1 || pmap.Shared(n, m) != 1 {
		t.Errorf("Shared: %d, %d", pmap.Shared(m, n), pmap.Shared(n, m))
	}
	left, v, is, right := m.Split("b")
	if left.Len() != 1 || v != 2 || !is || right.Len() != 1 {
		t.Errorf("Split: %d, %v, %v, %d", left.Len(), v, is, right.Len())
	}
	if x, e := pmap.Join(m, "b", 0, m); e != api.ErrArg || x.Root() != nil {
		t.Errorf("Join: %v", e)
	}
	x, e := pmap.Make(nil, "k", 1, nil)
	if e != api.OK {
		t.Errorf("Make: %v", e)
	}
	wantTold(t, x, []pair{{"k", 1}})
}

// P7.1, P7.4: the map without keys, however it comes.
func TestNoKeys(t *testing.T) {
	var zero intMap
	split1, v, is, split2 := zero.Split("k")
	if v != 0 || is {
		t.Errorf("Split of none: %v, %v", v, is)
	}
	for _, m := range []intMap{zero, mustOf(t, nil, nil), mustOf(t, []string{}, []int{}), mustOf(t, nil, []int{}), zero.Take(""), zero.Put("", 1).Take(""), (*intNode)(nil).Map(), new(intNode).Map(), split1, split2} {
		wantTold(t, m, nil)
		if !m.Same(zero) || m.Root() != nil || pmap.Shared(m, zero) != 0 || pmap.Shared(m, zero.Put("a", 1)) != 0 {
			t.Error("a map without keys that is not the zero one")
		}
		if v, is := m.Get(""); v != 0 || is {
			t.Errorf("Get: %v, %v", v, is)
		}
		if walked(m, "") != nil || walked(m, "a") != nil {
			t.Error("From tells keys")
		}
		wantTold(t, m.Put("", 7), []pair{{"", 7}})
	}
}

// P7.1, P7.6: keys of any bytes, byte by byte.
func TestStrangeKeys(t *testing.T) {
	keys := strange()
	want := pairsOf(keys)
	m := mustOf(t, keys, places(len(keys)))
	wantTold(t, m, want)
	var n intMap
	for i, k := range keys {
		n = n.Put(k, i)
	}
	wantTold(t, n, want)
	for _, k := range append(keys, "c", "ac", "\xfe", "\x00\x00\x00", "\xff\xff\xff", "a\x01") {
		at := slices.IndexFunc(want, func(p pair) bool { return bytes.Compare([]byte(p.key), []byte(k)) >= 0 })
		if at < 0 {
			at = len(want)
		}
		if got := walked(m, k); !slices.Equal(got, want[at:]) {
			t.Errorf("From(%q): %v; want %v", k, got, want[at:])
		}
		if got := walked(n, k); !slices.Equal(got, want[at:]) {
			t.Errorf("From(%q) of what was put: %v; want %v", k, got, want[at:])
		}
		if v, is := m.Get(k); is != slices.Contains(keys, k) || !is && v != 0 {
			t.Errorf("Get(%q): %v, %v", k, v, is)
		}
	}
}

// P7.1: any number of keys, handed in by any order.
func TestOf(t *testing.T) {
	for n := range 200 {
		keys, values := make([]string, n), make([]int, n)
		var want []pair
		for i := range n {
			at := (i*7 + 3) % max(1, n)
			if n%7 == 0 {
				at = n - 1 - i
			}
			keys[i], values[i] = string([]byte{byte(at)}), at*at
			want = append(want, pair{string([]byte{byte(i)}), i * i})
		}
		wantTold(t, mustOf(t, keys, values), want)
	}
	for _, l := range orders([]string{"", "a", "aa", "b", "\xff"}) {
		values := make([]int, len(l))
		for i, k := range l {
			values[i] = 10 + slices.Index([]string{"", "a", "aa", "b", "\xff"}, k)
		}
		wantTold(t, mustOf(t, l, values), []pair{{"", 10}, {"a", 11}, {"aa", 12}, {"b", 13}, {"\xff", 14}})
	}
}

// P7.1
func TestOfRefused(t *testing.T) {
	for _, c := range []struct {
		keys   []string
		values []int
	}{
		{[]string{"a"}, nil},
		{nil, []int{1}},
		{[]string{"a", "b"}, []int{1}},
		{[]string{"a", "b"}, []int{1, 2, 3}},
		{[]string{"a", "a"}, []int{1}},
		{[]string{"a", "a"}, []int{1, 1}},
		{[]string{"", ""}, []int{1, 2}},
		{[]string{"a", "b", "a"}, []int{1, 2, 3}},
		{[]string{"c", "b", "a", "d", "b"}, []int{1, 2, 3, 4, 5}},
		{[]string{"b", "c", "d", "e", "a", "b"}, []int{1, 2, 3, 4, 5, 6}},
		{[]string{"\xff", "a", "\xff"}, []int{1, 2, 3}},
	} {
		if m, e := pmap.Of(c.keys, c.values); e != api.ErrArg || m.Root() != nil {
			t.Errorf("Of(%q, %v): %d keys, %v", c.keys, c.values, m.Len(), e)
		}
	}
}

// What is handed in is not changed, and not kept (DOC.md, the rules).
func TestOfApart(t *testing.T) {
	keys, values := []string{"c", "a", "b", "spare"}, []int{3, 1, 2, 99}
	m := mustOf(t, keys[:3], values[:3])
	if !slices.Equal(keys, []string{"c", "a", "b", "spare"}) || !slices.Equal(values, []int{3, 1, 2, 99}) {
		t.Fatalf("Of changed what it was handed: %q, %v", keys, values)
	}
	for i := range keys {
		keys[i], values[i] = "spoilt", -1
	}
	wantTold(t, m, []pair{{"a", 1}, {"b", 2}, {"c", 3}})
}

// P7.1: values that are zero, and values of other types.
func TestValues(t *testing.T) {
	m := mustOf(t, []string{"a", "b"}, []int{0, 1})
	if v, is := m.Get("a"); v != 0 || !is {
		t.Errorf("Get of a value nought: %v, %v", v, is)
	}
	var none pmap.Map[struct{}]
	some := none.Put("a", struct{}{}).Put("b", struct{}{})
	if _, is := some.Get("b"); !is || some.Len() != 2 || some.Same(none) || pmap.Shared(some, some.Put("a", struct{}{})) != 1 {
		t.Error("a map of values that have no bytes")
	}
	lists, e := pmap.Of([]string{"x", "y"}, [][]string{{"1"}, nil})
	if l, is := lists.Get("x"); e != api.OK || !is || len(l) != 1 {
		t.Errorf("a map of lists: %v, %v", l, is)
	}
	if l, is := lists.Get("z"); is || l != nil {
		t.Errorf("a list that is not there: %v, %v", l, is)
	}
	nested := pmap.Map[intMap]{}.Put("m", m)
	if in, is := nested.Get("m"); !is || !in.Same(m) {
		t.Error("a map of maps")
	}
}

// P7.1, P7.4: walks are left behind any step, gone over again, and within one another.
func TestWalksLeft(t *testing.T) {
	keys := strange()
	m := mustOf(t, keys, places(len(keys)))
	want := pairsOf(keys)
	nodes := slices.Collect(m.Nodes())
	all, from, over := m.All(), m.From("a"), m.Nodes()
	behind := len(walked(m, "a"))
	for stop := range len(keys) + 2 {
		for range 2 {
			var got []pair
			for k, v := range all {
				if len(got) == stop {
					break
				}
				got = append(got, pair{k, v})
			}
			if !slices.Equal(got, want[:min(stop, len(want))]) {
				t.Fatalf("All left behind %d: %v", stop, got)
			}
			got = nil
			for k, v := range from {
				if len(got) == stop {
					break
				}
				got = append(got, pair{k, v})
			}
			tail := want[len(want)-behind:]
			if !slices.Equal(got, tail[:min(stop, behind)]) {
				t.Fatalf("From left behind %d: %v", stop, got)
			}
			var seen []*intNode
			for n := range over {
				if len(seen) == stop {
					break
				}
				seen = append(seen, n)
			}
			if !slices.Equal(seen, nodes[:min(stop, len(nodes))]) {
				t.Fatalf("Nodes left behind %d: %d nodes", stop, len(seen))
			}
		}
	}
	steps := 0
	for range all {
		for range from {
			steps++
		}
		for range over {
			steps++
		}
	}
	if steps != len(want)*(behind+len(nodes)) {
		t.Errorf("walks within a walk: %d steps", steps)
	}
}
