package tree_test

import (
	"math"
	"math/rand"
	"strconv"
	"testing"

	"estuary/api"
	"estuary/tree"
)

// number is the key of the i-th of many things.
func number(i int) string { return strconv.Itoa(10000 + i) }

// great is a tree of many counters and registers, at the root and within maps.
func great(t *testing.T) tree.Tree {
	t.Helper()
	var m tree.Tree
	gen := int64(0)
	fill := func(path string, n int) {
		for i := range n {
			gen++
			m = done(t, m, gen, add(path, number(i), 0), write(path, number(i), "x"))
		}
	}
	fill("", 1000)
	for i := range 12 {
		fill("m"+strconv.Itoa(i), 20)
		fill("m"+strconv.Itoa(i)+"/n", 60)
		m = done(t, m, gen, push("m"+strconv.Itoa(i), "q", "x"), insert("m"+strconv.Itoa(i), "s", "x"))
	}
	return m
}

// nodesByLevel is a tree's nodes by how deep their map is; the registers' elements apart.
func nodesByLevel(m tree.Tree) []map[any]bool {
	l := make([]map[any]bool, 2*(api.MaxDepth+1))
	for i := range l {
		l[i] = map[any]bool{}
	}
	var over func(deep int, m things)
	over = func(deep int, m things) {
		for n := range m.Nodes() {
			l[2*deep][n] = true
			for e := range n.Value().Elements.Nodes() {
				l[2*deep+1][e] = true
			}
			if n.Value().Kind == api.Map {
				over(deep+1, n.Value().Things)
			}
		}
	}
	over(0, m.Map())
	return l
}

// wantFew holds the new nodes of each level against what k operations may make.
func wantFew(t *testing.T, what string, was, now tree.Tree, k int) {
	t.Helper()
	most := 2 * float64(k+1) * (math.Log2(float64(was.Len()+1)) + 1)
	old, some := nodesByLevel(was), 0
	for level, l := range nodesByLevel(now) {
		made := 0
		for n := range l {
			if !old[level][n] {
				made++
			}
		}
		if float64(made) > most {
			t.Errorf("%s: on level %d of %d nodes %d operations made %d", what, level, was.Len(), k, made)
		}
		some += made
	}
	if k > 0 && some == 0 {
		t.Errorf("%s: %d operations made no node", what, k)
	}
	if some != now.Len()-now.Shared(was) {
		t.Errorf("%s: %d new ones, %d of %d shared", what, some, now.Shared(was), now.Len())
	}
}

// P15.5, P0.10: operations on counters and registers that are there make few nodes a level.
func TestFewNodes(t *testing.T) {
	m := great(t)
	chance := rand.New(rand.NewSource(10))
	paths := []string{"", "m0", "m0/n", "m3", "m3/n", "m11/n"}
	for _, k := range []int{0, 1, 2, 3, 8, 30, api.MaxOps} {
		for range 8 {
			var ops []api.Op
			for range k {
				path, key := paths[chance.Intn(len(paths))], number(chance.Intn(20))
				if path == "" {
					key = number(chance.Intn(1000))
				}
				if chance.Intn(2) == 0 {
					ops = append(ops, add(path, key, 1+chance.Int63n(9)))
				} else {
					ops = append(ops, write(path, key, "y"))
				}
			}
			now, n, e := m.DoAll(10000, nameOf(0, "a", 1), ops...)
			if n != k || e != api.OK {
				t.Fatal("DoAll:", n, e)
			}
			wantFew(t, "DoAll", m, now, k)
		}
	}
}

// P15.5: the same of small trees, where each node counts, as deep as maps go.
func TestFewNodesOfSmall(t *testing.T) {
	for _, path := range []string{"", "m", deep(api.MaxDepth)} {
		m := done(t, tree.Tree{}, 1, add(path, "c", 1), write(path, "r", "x"))
		wantFew(t, "a counter", m, done(t, m, 9, add(path, "c", 1)), 1)
		wantFew(t, "a register", m, done(t, m, 9, write(path, "r", "y")), 1)
	}
}

// P15.4: what operations leave is shared: all but the nodes that lead to the thing.
func TestShared(t *testing.T) {
	m := great(t)
	one := done(t, m, 10000, add("m3/n", number(7), 1))
	inner := lookUp(t, m, "m3", "n").Things
	most := m.Map().Height() + lookUp(t, m, "m3").Things.Height() + inner.Height()
	if made := one.Len() - one.Shared(m); one.Len() != m.Len() || made < 3 || made > most {
		t.Errorf("%d of %d nodes are new, at most %d may be", made, one.Len(), most)
	}
	if one.Shared(m) != m.Shared(one) || m.Shared(m) != m.Len() || m.Shared(tree.Tree{}) != 0 {
		t.Error("shared:", one.Shared(m), m.Shared(one), m.Shared(m))
	}
	if one.Same(m) || !one.Same(one) || !m.Same(m) || m.Same(tree.Tree{}) {
		t.Error("Same")
	}
	// A map of it that is a tree of its own has just nodes of it, wherever they stand.
	part, e := tree.Of(inner)
	if e != api.OK || part.Len() == 0 || part.Shared(m) != part.Len() || m.Shared(part) != part.Len() || part.Same(m) {
		t.Error("a map within it:", e, part.Len(), part.Shared(m), m.Shared(part))
	}
}

// lookUp is the map that keys lead to.
func lookUp(t *testing.T, m tree.Tree, keys ...string) tree.Thing {
	t.Helper()
	var x tree.Thing
	at := m.Map()
	for _, key := range keys {
		var has bool
		if x, has = at.Get(mapKey(key)); !has {
			t.Fatal("no map at", keys)
		}
		at = x.Things
	}
	return x
}
