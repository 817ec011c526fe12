package graph_test

import (
	"slices"
	"testing"

	"estuary/api"
	"estuary/graph"
)

// crossed is two branches that merge one another n times, each time as both were ahead of it.
func crossed(n int64) plain {
	a, b := nameOf(0, "a", 1), nameOf(1, "b", 1)
	p := plain{}.with(a).with(b, a)
	p = p.with(nameOf(0, "a", 2), a)
	for i := int64(2); i < n+2; i++ {
		a, b = nameOf(0, "a", i), nameOf(1, "b", i-1)
		p = p.with(nameOf(0, "a", i+1), a, b).with(nameOf(1, "b", i), b, a)
	}
	return p
}

// P17.3: of criss-crosses the nearest common ancestors are both of the step ahead, and just these.
func TestCrossed(t *testing.T) {
	const steps = 30
	p := crossed(steps)
	g := graphOf(t, p)
	for i := int64(3); i < steps+2; i++ {
		a, b := []api.Name{nameOf(0, "a", i)}, []api.Name{nameOf(1, "b", i-1)}
		want := []api.Name{nameOf(0, "a", i-1), nameOf(1, "b", i-2)}
		common, e := g.Common(a, b)
		wantNames(t, "Common", common, e, want)
		wantLists(t, g, p, a, b)
		wantLists(t, g, p, want, a)
		wantFollows(t, g, a, b)
	}
}

// P17.3: several nearest ones of several generations; an ancestor of one of them is none, though both lists lead to it another way.
func TestSeveralNearest(t *testing.T) {
	p := made(t, "r1; a1 r1; a2 a1; a3 a2; b1 r1; x1 a3 b1; y1 a3 b1; x2 x1 r1; y2 y1 a1; z1; x3 x2 z1; y3 y2 z1")
	g := graphOf(t, p)
	for _, pair := range [][3]string{
		{"x1", "y1", "a3 b1"}, {"x2", "y2", "a3 b1"}, {"x3", "y3", "a3 b1 z1"}, {"x3", "z1", "z1"}, {"x1", "z1", ""}, {"x2 z1", "y3", "a3 b1 z1"}, {"r1 x3", "y1 a1", "a3 b1"}, {"x3", "x2 x1", "x2"}, {"x1 y1", "x1 y1", "x1 y1"}, {"x1 y1", "a2", "a2"},
	} {
		a, b := names(t, pair[0]), names(t, pair[1])
		common, e := g.Common(a, b)
		wantNames(t, "Common of "+pair[0]+" and "+pair[1], common, e, names(t, pair[2]))
		wantLists(t, g, p, a, b)
		wantLists(t, g, p, b, a)
		wantFollows(t, g, a, b)
	}
}

// Long histories: each call ends, and is not in the way of the next one.
func TestLong(t *testing.T) {
	const long, crosses = 60000, 10000
	g := graph.New()
	for i := int64(1); i <= long; i++ {
		c := api.Commit{Name: nameOf(0, "a", i), Gen: i}
		if i > 1 {
			c.Parents = []api.Name{nameOf(0, "a", i-1)}
		}
		if e := g.Add(c); e != api.OK {
			t.Fatal("Add:", e)
		}
	}
	last, before := nameOf(0, "a", long), nameOf(0, "a", long-1)
	side := nameOf(0, "b", 1)
	if e := g.Add(api.Commit{Name: side, Parents: []api.Name{before}, Gen: long}); e != api.OK {
		t.Fatal("Add:", e)
	}
	for range 2000 { // what is near is found without going through the whole
		common, e := g.Common([]api.Name{last}, []api.Name{side})
		wantNames(t, "Common", common, e, []api.Name{before})
		missing, e := g.Missing([]api.Name{side}, []api.Name{last})
		wantNames(t, "Missing", missing, e, []api.Name{side})
		if is, e := g.Is(before, side); !is || e != api.OK {
			t.Fatal("Is:", is, e)
		}
	}
	ancestors, e := g.Ancestors(side)
	if e != api.OK || len(ancestors) != long || ancestors[0] != nameOf(0, "a", 1) || ancestors[long-1] != side {
		t.Error("Ancestors:", len(ancestors), e)
	}
	if is, e := g.Is(nameOf(0, "a", 1), last); !is || e != api.OK {
		t.Error("Is of the first one:", is, e)
	}
	if n, e := g.Keep(before); n != 2 || e != api.OK || g.Len() != long-1 {
		t.Error("Keep:", n, e)
	}
	g = graph.New()
	a, b := nameOf(0, "a", 1), nameOf(0, "b", 1)
	g.Add(api.Commit{Name: a, Gen: 1})
	g.Add(api.Commit{Name: b, Gen: 1})
	for i := int64(2); i <= crosses; i++ {
		x, y := nameOf(0, "a", i), nameOf(0, "b", i)
		g.Add(api.Commit{Name: x, Gen: i, Parents: []api.Name{a, b}})
		g.Add(api.Commit{Name: y, Gen: i, Parents: []api.Name{b, a}})
		common, e := g.Common([]api.Name{x}, []api.Name{y})
		wantNames(t, "Common", common, e, []api.Name{a, b})
		a, b = x, y
	}
	ancestors, e = g.Ancestors(a)
	if e != api.OK || len(ancestors) != 2*crosses-1 || slices.Contains(ancestors, b) {
		t.Error("Ancestors of crossed ones:", len(ancestors), e)
	}
}
