package pmap_test

import (
	"slices"
	"testing"

	"estuary/api"
	"estuary/pmap"
)

// P7.4: of nil, and of a node that no call made, zeros.
func TestNoNode(t *testing.T) {
	for _, n := range []*intNode{nil, new(intNode)} {
		if lookAt(n) != (look{}) {
			t.Errorf("a node that is none tells %v", lookAt(n))
		}
		if m := n.Map(); m.Root() != nil || !m.Same(intMap{}) || m.Len() != 0 {
			t.Error("Map of a node that is none has a root")
		}
	}
	zero := new(intNode)
	for _, sides := range [][2]*intNode{{nil, nil}, {zero, nil}, {nil, zero}, {zero, zero}, {zero, new(intNode)}} {
		m, e := pmap.Make(sides[0], "", 5, sides[1])
		if e != api.OK || m.Root().Left() != nil || m.Root().Right() != nil {
			t.Errorf("Make of no nodes: %v", e)
		}
		wantTold(t, m, []pair{{"", 5}})
	}
}

// P7.4: the nodes of a map, one by one.
func TestNodes(t *testing.T) {
	m := mustOf(t, []string{"b", "a", "c"}, []int{2, 1, 3})
	root := m.Root()
	if root.Key() != "b" || root.Value() != 2 || root.Height() != 2 || root.Len() != 3 {
		t.Errorf("Root: %v", lookAt(root))
	}
	for i, n := range []*intNode{root.Left(), root.Right()} {
		if n.Key() != []string{"a", "c"}[i] || n.Value() != 1+2*i || n.Height() != 1 || n.Len() != 1 || n.Left() != nil || n.Right() != nil {
			t.Errorf("a side: %v", lookAt(n))
		}
		wantTold(t, n.Map(), []pair{{n.Key(), n.Value()}})
	}
	if got := slices.Collect(m.Nodes()); !slices.Equal(got, []*intNode{root.Left(), root.Right(), root}) {
		t.Errorf("Nodes: %v", got)
	}
	if m.Root() != root || !root.Map().Same(m) || root.Map().Root() != root {
		t.Error("Root and Map")
	}
}

// P7.4, P7.6
func TestSame(t *testing.T) {
	m := mustOf(t, []string{"b", "a", "c"}, []int{2, 1, 3})
	o := mustOf(t, []string{"b", "a", "c"}, []int{2, 1, 3})
	var none intMap
	for _, c := range []struct {
		a, b intMap
		same bool
	}{
		{m, m, true}, {m, o, false}, {o, m, false}, {none, none, true}, {none, m, false}, {m, none, false},
		{m, m.Put("b", 2), false}, {m, m.Root().Map(), true}, {m, m.Root().Left().Map(), false}, {m, m.Take("d"), true},
		{none, m.Take("a").Take("b").Take("c"), true}, {m, m.Take("a").Put("a", 1), false},
	} {
		if got := c.a.Same(c.b); got != c.same {
			t.Errorf("Same of %d and %d keys: %v", c.a.Len(), c.b.Len(), got)
		}
		if c.same && (pmap.Shared(c.a, c.b) != c.a.Len() || !slices.Equal(walked(c.a, ""), walked(c.b, ""))) {
			t.Errorf("two that are Same share %d of %d", pmap.Shared(c.a, c.b), c.a.Len())
		}
	}
	if pmap.Shared(m, o) != 0 {
		t.Errorf("two maps made apart share %d nodes", pmap.Shared(m, o))
	}
}

// P7.4: what is shared, held against the nodes themselves, between a map and all that is made of it.
func TestShared(t *testing.T) {
	for n := range 10 {
		for _, m := range shapes(t, 1, n) {
			others := []intMap{{}, m, mustOf(t, []string{keyOf(1)}, []int{1})}
			for place := range 2*n + 1 {
				left, _, _, right := m.Split(keyOf(place))
				others = append(others, m.Put(keyOf(place), 0), m.Take(keyOf(place)), left, right)
				if x, e := pmap.Join(left, keyOf(place), 0, right); e == api.OK {
					others = append(others, x)
				}
			}
			for node := range m.Nodes() {
				others = append(others, node.Map())
			}
			for _, o := range others {
				if got, want := pmap.Shared(m, o), m.Len()-fresh(m, o); got != want {
					t.Fatalf("Shared of %d and %d keys: %d; want %d", m.Len(), o.Len(), got, want)
				}
				if got, want := pmap.Shared(o, m), o.Len()-fresh(o, m); got != want {
					t.Fatalf("Shared of %d and %d keys: %d; want %d", o.Len(), m.Len(), got, want)
				}
			}
		}
	}
}

// P7.4: a node that lies elsewhere in the other map, and below another root.
func TestSharedElsewhere(t *testing.T) {
	a := mustOf(t, []string{"b", "a", "c"}, []int{2, 1, 3})
	left := a.Root().Left()
	b, e := pmap.Make(left, "aa", 9, nil)
	if e != api.OK || pmap.Shared(a, b) != 1 || pmap.Shared(b, a) != 1 {
		t.Errorf("Shared: %v, %d, %d", e, pmap.Shared(a, b), pmap.Shared(b, a))
	}
	c, e := pmap.Make(a.Root(), "d", 4, nil)
	if e != api.ErrArg || c.Root() != nil {
		t.Errorf("Make of heights 2 and 0: %v", e)
	}
	d, e := pmap.Make(a.Root(), "d", 4, mustOf(t, []string{"e"}, []int{5}).Root())
	if e != api.OK || d.Root().Left() != a.Root() || pmap.Shared(a, d) != 3 || pmap.Shared(d, a) != 3 {
		t.Errorf("Shared: %v, %d, %d", e, pmap.Shared(a, d), pmap.Shared(d, a))
	}
}

// P7.4: Make's root is new, with just what was handed in.
func TestMake(t *testing.T) {
	for n := range 8 {
		for o := range 8 {
			for _, left := range shapes(t, 1, n) {
				for _, right := range shapes(t, 2*n+3, o) {
					wantMade(t, left, 2*n+1, right)
				}
			}
		}
	}
}

func wantMade(t *testing.T, left intMap, place int, right intMap) {
	t.Helper()
	unchanged := still(left, right)
	apart := left.Height() - right.Height()
	m, e := pmap.Make(left.Root(), keyOf(place), place, right.Root())
	o, f := pmap.Make(left.Root(), keyOf(place), place, right.Root())
	if apart < -1 || apart > 1 {
		if e != api.ErrArg || f != api.ErrArg || m.Root() != nil {
			t.Fatalf("Make of the heights %d and %d: %v", left.Height(), right.Height(), e)
		}
		return
	}
	if e != api.OK || f != api.OK || m.Same(o) {
		t.Fatalf("Make of the heights %d and %d: %v, %v", left.Height(), right.Height(), e, f)
	}
	if n := m.Root(); n.Left() != left.Root() || n.Right() != right.Root() || n.Key() != keyOf(place) || n.Value() != place {
		t.Fatalf("Make made %v", lookAt(n))
	}
	if fresh(m, left, right) != 1 {
		t.Fatalf("Make made %d new nodes", fresh(m, left, right))
	}
	wantTold(t, m, odds(1, left.Len()+1+right.Len()))
	unchanged(t)
}

// P7.4: keys out of order, at each place of sides that are about as high.
func TestMakeRefused(t *testing.T) {
	for n := range 8 {
		for _, left := range shapes(t, 1, n) {
			for _, right := range shapes(t, 41, n) {
				for place := range 60 {
					fits := n == 0 || place > 2*n-1 && place < 41
					m, e := pmap.Make(left.Root(), keyOf(place), 0, right.Root())
					if apart := left.Height() - right.Height(); apart < -1 || apart > 1 {
						fits = false
					}
					if fits != (e == api.OK) || !fits && (e != api.ErrArg || m.Root() != nil) {
						t.Fatalf("Make of %d, %d, %d keys: %v", n, place, n, e)
					}
					if m, e := pmap.Make(right.Root(), keyOf(place), 0, left.Root()); n > 0 && (e != api.ErrArg || m.Root() != nil) {
						t.Fatalf("Make with sides the wrong way round: %v", e)
					}
				}
			}
		}
	}
	one := mustMake(t, nil, 1, nil)
	for _, sides := range [][2]*intNode{{one.Root(), nil}, {nil, one.Root()}, {one.Root(), one.Root()}} {
		if m, e := pmap.Make(sides[0], keyOf(1), 0, sides[1]); e != api.ErrArg || m.Root() != nil {
			t.Errorf("Make at a key that is there: %v", e)
		}
	}
}
