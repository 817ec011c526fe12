package graph_test

import (
	"math/rand"
	"slices"
	"testing"

	"estuary/api"
	"estuary/graph"
)

// wantLists holds what is told of two lists against what the parents alone say.
func wantLists(t *testing.T, g *graph.Graph, p plain, a, b []api.Name) {
	t.Helper()
	ancestors, e := g.Ancestors(a...)
	wantNames(t, "Ancestors", ancestors, e, p.ancestors(a...))
	heads, e := g.Heads(a...)
	asked := set{}
	for _, n := range a {
		asked[n] = true
	}
	wantNames(t, "Heads", heads, e, p.heads(asked))
	common, e := g.Common(a, b)
	wantNames(t, "Common", common, e, p.common(a, b))
	missing, e := g.Missing(a, b)
	wantNames(t, "Missing", missing, e, p.missing(a, b))
	if gen, e := g.Gen(a...); gen != p.gen(a) || e != api.OK {
		t.Fatalf("Gen of %v: %d, %v", a, gen, e)
	}
	// P17.6: Common does not hang on the order of the lists; of a list and itself it is its heads.
	again, e := g.Common(b, a)
	wantNames(t, "Common, the other way round", again, e, common)
	own, e := g.Common(a, a)
	wantNames(t, "Common of a list and itself", own, e, heads)
}

// wantFollows holds what P17.6 and P0.2 say of two lists, by the graph's own answers alone.
func wantFollows(t *testing.T, g *graph.Graph, a, b []api.Name) {
	t.Helper()
	common, _ := g.Common(a, b)
	isOf := func(n api.Name, l []api.Name) bool {
		return slices.ContainsFunc(l, func(of api.Name) bool {
			is, e := g.Is(n, of)
			return is && e == api.OK
		})
	}
	for c := range g.All() {
		if both := isOf(c.Name, a) && isOf(c.Name, b); both != isOf(c.Name, common) {
			t.Fatalf("%v is common to %v and %v: %v; Common: %v", c.Name, a, b, both, common)
		}
	}
	missing, _ := g.Missing(a, b)
	there := set{}
	for _, l := range [][]api.Name{first(g.Ancestors(b...)), missing} {
		for _, n := range l {
			if there[n] {
				t.Fatalf("Missing of %v and %v tells %v, which is had, or twice", a, b, n)
			}
			there[n] = true
			c, _ := g.At(n)
			for _, parent := range c.Parents {
				if !there[parent] {
					t.Fatalf("of %v and %v: %v is told ahead of its parent %v", a, b, n, parent)
				}
			}
		}
	}
}

func first(l []api.Name, _ api.Errno) []api.Name { return l }

// wantPairs holds Is against the parents, of each two commits.
func wantPairs(t *testing.T, g *graph.Graph, p plain) {
	t.Helper()
	for _, of := range p.all() {
		past := p.past(of)
		for _, a := range p.all() {
			if is, e := g.Is(a, of); is != past[a] || e != api.OK {
				t.Fatalf("Is of %v and %v in %v: %v, %v", a, of, p, is, e)
			}
		}
	}
}

// parentsOf is all lists of at most two of these commits.
func parentsOf(p plain) [][]api.Name {
	l := [][]api.Name{nil}
	for i, one := range p {
		l = append(l, []api.Name{one.Name})
		for _, other := range p[:i] {
			l = append(l, []api.Name{one.Name, other.Name})
		}
	}
	return l
}

// eachGraph goes over all graphs of these commits, one behind the other.
func eachGraph(p plain, left []api.Name, do func(plain)) {
	if len(left) == 0 {
		do(p)
		return
	}
	for _, parents := range parentsOf(p) {
		eachGraph(slices.Clone(p).with(left[0], parents...), left[1:], do)
	}
}

// some is the commits of a plain graph that the bits of a number name.
func some(p plain, bits int) []api.Name {
	var l []api.Name
	for i, c := range p {
		if bits>>i&1 == 1 {
			l = append(l, c.Name)
		}
	}
	return l
}

// P17.2, P17.3, P17.4: all graphs of up to four commits, and all pairs of their lists. The names' order is not that of the generations.
func TestSmallGraphs(t *testing.T) {
	all := names(t, "b2 1.a1 a1 b10")
	for n := range len(all) + 1 {
		eachGraph(nil, all[:n], func(p plain) {
			g := graphOf(t, p)
			wantGraph(t, "a small graph", g, p)
			wantPairs(t, g, p)
			for x := range 1 << n {
				for y := range 1 << n {
					wantLists(t, g, p, some(p, x), some(p, y))
				}
			}
		})
	}
}

// P17.2, P17.3: all graphs of five commits, and each two of their commits, and what follows.
func TestFiveCommits(t *testing.T) {
	random := rand.New(rand.NewSource(5))
	eachGraph(nil, names(t, "c3 a1 c2 1.a1 b1"), func(p plain) {
		g := graphOf(t, p)
		for i := range p {
			for j := range p {
				wantLists(t, g, p, some(p, 1<<i), some(p, 1<<j))
			}
		}
		a, b := shuffled(random, some(p, random.Intn(32))), shuffled(random, some(p, random.Intn(32)))
		wantLists(t, g, p, a, b)
		wantFollows(t, g, a, b)
	})
}

// P17.2 to P17.4, P17.6: merges of merges on several branches; lists in any order, with names twice, with commits and their own ancestors.
func TestGrownGraphs(t *testing.T) {
	random := rand.New(rand.NewSource(17))
	for round := range 40 {
		p := grown(random, 5+round, 1+round%5)
		g := graphOf(t, p)
		wantGraph(t, "a grown graph", g, p)
		wantPairs(t, g, p)
		for range 25 {
			a, b := shuffled(random, pick(random, p)), shuffled(random, pick(random, p))
			wantLists(t, g, p, a, b)
			wantFollows(t, g, a, b)
		}
		all := shuffled(random, p.all())
		wantLists(t, g, p, all, pick(random, p))
		wantLists(t, g, p, pick(random, p), all)
	}
}

// P17.4: what have names that is not there is left out, wherever it stands, whatever it is.
func TestMissingLeftOut(t *testing.T) {
	random := rand.New(rand.NewSource(174))
	wrong := []api.Name{{}, nameOf(-1, "a", 1), nameOf(0, "", 1), nameOf(0, "A", 1), nameOf(0, "a", 0), nameOf(0, "a", -1), nameOf(0, "none", 1), nameOf(7, "a", api.MaxNumber)}
	for range 50 {
		p := grown(random, 20, 3)
		g := graphOf(t, p)
		want, have := pick(random, p), pick(random, p)
		missing, e := g.Missing(want, shuffled(random, append(slices.Clone(wrong), have...)))
		wantNames(t, "Missing", missing, e, p.missing(want, have))
		missing, e = g.Missing(want, wrong)
		wantNames(t, "Missing, none of have being there", missing, e, p.ancestors(want...))
	}
	g := graphOf(t, made(t, example))
	kept := g.Copy()
	kept.Keep(name(t, "a2"))
	missing, e := kept.Missing(names(t, "a2"), names(t, "b2"))
	wantNames(t, "Missing, have being let go", missing, e, names(t, "a1 a2"))
}

// No names at all.
func TestNoNames(t *testing.T) {
	for _, p := range []plain{nil, made(t, "a1"), made(t, example)} {
		g := graphOf(t, p)
		if gen, e := g.Gen(); gen != 1 || e != api.OK {
			t.Error("Gen of none:", gen, e)
		}
		for _, none := range [][]api.Name{nil, {}} {
			for _, other := range [][]api.Name{nil, {}, p.all()} {
				wantLists(t, g, p, none, other)
				wantLists(t, g, p, other, none)
			}
			if n, e := g.Copy().Keep(none...); n != len(p) || e != api.OK {
				t.Error("Keep of none:", n, e)
			}
		}
	}
}

// Names that are not there: ErrCommit, and nothing beside it, wherever they stand.
func TestNotThere(t *testing.T) {
	p := made(t, example)
	a2, b1 := name(t, "a2"), name(t, "b1")
	for _, n := range []api.Name{name(t, "a4"), name(t, "1.a1"), name(t, "c1"), {}, nameOf(-1, "a", 1), nameOf(0, "a", 0), nameOf(0, "A", 1)} {
		g := graphOf(t, p)
		for _, l := range [][]api.Name{{n}, {n, a2}, {a2, n}, {a2, b1, n}, {a2, n, b1}, {n, n}} {
			gen, ofGen := g.Gen(l...)
			ancestors, ofAncestors := g.Ancestors(l...)
			heads, ofHeads := g.Heads(l...)
			common, ofCommon := g.Common(l, []api.Name{a2})
			other, ofOther := g.Common([]api.Name{a2}, l)
			alone, ofAlone := g.Common(nil, l)
			missing, ofMissing := g.Missing(l, []api.Name{a2, n})
			gone, ofKeep := g.Keep(l...)
			for i, e := range []api.Errno{ofGen, ofAncestors, ofHeads, ofCommon, ofOther, ofAlone, ofMissing, ofKeep} {
				if e != api.ErrCommit {
					t.Errorf("the call %d of %v: %v", i, l, e)
				}
			}
			if gen != 0 || gone != 0 || len(ancestors)+len(heads)+len(common)+len(other)+len(alone)+len(missing) > 0 {
				t.Errorf("beside ErrCommit of %v: %v %v %v %v %v %v %v %v", l, gen, gone, ancestors, heads, common, other, alone, missing)
			}
		}
		for _, pair := range [][2]api.Name{{n, a2}, {a2, n}, {n, n}} {
			if is, e := g.Is(pair[0], pair[1]); is || e != api.ErrCommit {
				t.Errorf("Is of %v: %v, %v", pair, is, e)
			}
		}
		wantGraph(t, "behind refusals", g, p)
	}
}

// P17.4: what is let go is gone, and its name may be given anew.
func TestKeep(t *testing.T) {
	for _, x := range []struct {
		keep, left string
		gone       int
	}{
		{"a2", "a1; a2 a1", 3}, {"a1", "a1", 4}, {"a3", "a1; b1 a1; a2 a1; a3 a2 b1", 1}, {"a3 b2", example, 0}, {"a2 b1", "a1; b1 a1; a2 a1", 2}, {"a1 b1 a1", "a1; b1 a1", 3}, {"", "", 5},
	} {
		g, want := graphOf(t, made(t, example)), made(t, x.left)
		if n, e := g.Keep(names(t, x.keep)...); n != x.gone || e != api.OK {
			t.Errorf("Keep of %q: %d, %v", x.keep, n, e)
		}
		wantGraph(t, x.keep, g, want)
		if n, e := g.Keep(names(t, x.keep)...); n != 0 || e != api.OK {
			t.Errorf("Keep of %q again: %d, %v", x.keep, n, e)
		}
	}
	g := graphOf(t, made(t, example))
	g.Keep(name(t, "a2"))
	for _, c := range made(t, "a1; a2 a1; b1; a3 a2 b1") {
		if e := g.Add(c); e != api.OK {
			t.Errorf("Add of %v behind Keep: %v", c, e)
		}
	}
	wantGraph(t, "other ones of these names", g, made(t, "a1; a2 a1; b1; a3 a2 b1"))
}

// P17.4: whatever heads are kept, what is left answers as the commits that are left say.
func TestKeepOfAny(t *testing.T) {
	random := rand.New(rand.NewSource(1740))
	for range 40 {
		p := grown(random, 30, 4)
		g, heads := graphOf(t, p), pick(random, p)
		past := p.past(heads...)
		left := slices.DeleteFunc(slices.Clone(p), func(c api.Commit) bool { return !past[c.Name] })
		if n, e := g.Keep(shuffled(random, heads)...); n != len(p)-len(left) || e != api.OK {
			t.Fatalf("Keep of %v: %d, %v", heads, n, e)
		}
		wantGraph(t, "what is left", g, left)
		wantPairs(t, g, left)
		for _, n := range p.all() {
			if _, e := g.At(n); g.Has(n) != past[n] || (e == api.OK) != past[n] {
				t.Fatalf("At of %v behind Keep of %v: %v", n, heads, e)
			}
		}
	}
}
