package graph_test

import (
	"math/rand"
	"slices"
	"testing"

	"estuary/api"
	"estuary/graph"
)

// told is the names of the commits that are gone over, at most n.
func told(all func(func(api.Commit) bool), n int) []api.Name {
	var l []api.Name
	if n == 0 {
		return nil
	}
	for c := range all {
		if l = append(l, c.Name); len(l) == n {
			break
		}
	}
	return l
}

// P17.1: by generations, of one by names (repository, label, number); left anywhere, gone over again.
func TestAll(t *testing.T) {
	p := made(t, "1.b1; 0.b2; 0.b10; 0.ab1; 1.a1; 0.z1 0.b2; 0.a9 0.b10; 0.a1 0.z1; 7.a1 0.ab1 1.b1; 0.y1")
	want := names(t, "ab1 b2 b10 y1 1.a1 1.b1 a9 z1 7.a1 a1")
	g := graphOf(t, p)
	wantGraph(t, "several branches", g, p)
	all := g.All()
	for n := range len(want) + 2 {
		if l := told(all, n); !slices.Equal(l, want[:min(n, len(want))]) {
			t.Errorf("left behind %d: %v", n, l)
		}
	}
}

// P17.1: the commits as they are when All is called, not when they are gone over.
func TestAllWhenCalled(t *testing.T) {
	p := made(t, example)
	g := graph.New()
	none := g.All()
	for _, c := range p {
		g.Add(c)
	}
	all, want := g.All(), p.ancestors(p.all()...)
	var l []api.Name
	for c := range all {
		l = append(l, c.Name)
		next := nameOf(1, "n", int64(len(l)))
		if e := g.Add(api.Commit{Name: next, Parents: []api.Name{c.Name}, Gen: c.Gen + 1}); e != api.OK {
			t.Fatal("Add while they are gone over:", e)
		}
	}
	if !slices.Equal(l, want) || len(told(none, -1)) > 0 {
		t.Errorf("with commits added meanwhile: %v; of an empty graph: %v", l, told(none, -1))
	}
	if len(told(g.All(), -1)) != 2*len(want) {
		t.Errorf("called anew: %v", told(g.All(), -1))
	}
	g.Keep(name(t, "a1"))
	if !slices.Equal(told(all, -1), want) {
		t.Errorf("gone over again, behind Keep: %v", told(all, -1))
	}
	wantGraph(t, "behind Keep", g, p[:1])
}

// P17.5: a copy has all, and both go on apart.
func TestCopy(t *testing.T) {
	p := made(t, example)
	p[2].Ops = opsOf("k")
	g := graphOf(t, p)
	c := g.Copy()
	wantGraph(t, "a copy", c, p)
	if !graph.Same(g, c) {
		t.Error("a copy is not the same")
	}
	more := slices.Clone(p).with(name(t, "c1"), names(t, "a3 b2")...)
	other := slices.Clone(p).with(name(t, "c1"), names(t, "b2")...)
	if e := g.Add(more[len(p)]); e != api.OK {
		t.Error("Add behind Copy:", e)
	}
	wantGraph(t, "what was copied, and went on", g, more)
	wantGraph(t, "its copy", c, p)
	if e := c.Add(other[len(p)]); e != api.OK {
		t.Error("Add to the copy:", e)
	}
	wantGraph(t, "the copy, which went on", c, other)
	again := c.Copy()
	if n, e := c.Keep(name(t, "a2")); n != 4 || e != api.OK {
		t.Error("Keep of the copy:", n, e)
	}
	wantGraph(t, "what the kept one was copied of", g, more)
	wantGraph(t, "a copy's copy", again, other)
	if n, e := g.Keep(); n != 6 || e != api.OK {
		t.Error("Keep of none:", n, e)
	}
	wantGraph(t, "the copy behind that", c, plain{p[0], p[2]})
	wantGraph(t, "a copy of an empty one", g.Copy(), nil)
	if g.Copy().Add(p[0]) != api.OK || g.Len() != 0 {
		t.Error("a copy of an empty one does not go on apart")
	}
}

// P17.5: of nil ones, zero ones, and empty ones.
func TestSameNil(t *testing.T) {
	none := map[string]*graph.Graph{"nil": nil, "zero": {}}
	some := map[string]*graph.Graph{"new": graph.New(), "of one": graphOf(t, made(t, "a1"))}
	for x, a := range none {
		for y, b := range none {
			if !graph.Same(a, b) {
				t.Errorf("Same of %s and %s: false", x, y)
			}
		}
		for y, b := range some {
			if graph.Same(a, b) || graph.Same(b, a) {
				t.Errorf("Same of %s and %s: true", x, y)
			}
		}
	}
	if !graph.Same(graph.New(), graph.New()) || graph.Same(some["new"], some["of one"]) || graph.Same(some["of one"], some["new"]) {
		t.Error("Same of an empty one")
	}
}

// P17.5: the same just where names and parents are, in whatever order they came; operations are not asked.
func TestSame(t *testing.T) {
	l := []string{
		example, "a1; a2 a1", "a1; b1 a1; a2 a1; a3 a2 b1", "a1; b1 a1; a2 a1; a3 b1 a2; b2 b1 a2", "a1; b1 a1; a2 a1; a3 a2 b1; b2 a2",
		"a1; b1 a1; a2 a1; a3 a2 b1; b3 b1 a2", "a1; b1 a1; a2 a1; a3 a2 b1; 1.b2 b1 a2", "a1; b1; a2 a1; a3 a2 b1; b2 b1 a2", "a1; b1 a1; a2 a1; a3 a2 b1; c1",
		"a1; a2; a3", "a1; a2; b3", "a1; a2; a4",
	}
	for i, one := range l {
		for j, other := range l {
			if graph.Same(graphOf(t, made(t, one)), graphOf(t, made(t, other))) != (i == j) {
				t.Errorf("Same of %s and %s: %v", one, other, i != j)
			}
		}
	}
	a, b := made(t, example), made(t, "a1; a2 a1; b1 a1; b2 b1 a2; a3 a2 b1")
	for i := range a {
		a[i].Ops = opsOf("k")
	}
	if !graph.Same(graphOf(t, a), graphOf(t, b)) || !graph.Same(graphOf(t, b), graphOf(t, a)) {
		t.Error("added in another order, with other operations: not the same")
	}
}

// P17.5: of graphs that were made, of parts of them, and of what is kept.
func TestSameOfAny(t *testing.T) {
	random := rand.New(rand.NewSource(175))
	for range 60 {
		p := grown(random, 1+random.Intn(20), 3)
		g := graphOf(t, p)
		kept, part := pick(random, p), graph.New()
		for _, n := range p.ancestors(kept...) {
			c, _ := p.find(n)
			part.Add(c)
		}
		c := g.Copy()
		n, e := c.Keep(kept...)
		if e != api.OK || n != len(p)-part.Len() || !graph.Same(c, part) || !graph.Same(part, c) {
			t.Fatalf("Keep of %v in %v: %d, %v, %d are left", kept, p, n, e, c.Len())
		}
		if graph.Same(g, c) != (n == 0) || graph.Same(c, g) != (n == 0) {
			t.Fatalf("Same of %v and its ancestors of %v: %v", p, kept, n != 0)
		}
	}
}
