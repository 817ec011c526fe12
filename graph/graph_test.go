package graph_test

import (
	"math"
	"slices"
	"strings"
	"testing"

	"estuary/api"
	"estuary/graph"
)

// example is the chapter's graph.
const example = "a1; b1 a1; a2 a1; a3 a2 b1; b2 b1 a2"

// The chapter's examples.
func TestExamples(t *testing.T) {
	g := graphOf(t, made(t, example))
	for _, x := range []struct {
		parents string
		gen     int64
		e       api.Errno
	}{{"a2 b1", 3, api.OK}, {"", 1, api.OK}, {"c1", 0, api.ErrCommit}} {
		if gen, e := g.Gen(names(t, x.parents)...); gen != x.gen || e != x.e {
			t.Errorf("Gen of %q: %d, %v", x.parents, gen, e)
		}
	}
	common, e := g.Common(names(t, "a3"), names(t, "b2"))
	wantNames(t, "Common", common, e, names(t, "a2 b1"))
	for _, x := range []struct {
		a, of string
		is    bool
	}{{"a1", "b2", true}, {"b2", "a1", false}} {
		if is, e := g.Is(name(t, x.a), name(t, x.of)); is != x.is || e != api.OK {
			t.Errorf("Is of %s and %s: %v, %v", x.a, x.of, is, e)
		}
	}
	heads, e := g.Heads(names(t, "a1 a2 b1")...)
	wantNames(t, "Heads", heads, e, names(t, "a2 b1"))
	ancestors, e := g.Ancestors(name(t, "b1"))
	wantNames(t, "Ancestors", ancestors, e, names(t, "a1 b1"))
	missing, e := g.Missing(names(t, "b2"), names(t, "a2 c9"))
	wantNames(t, "Missing", missing, e, names(t, "b1 b2"))
	if e := g.Add(api.Commit{Name: name(t, "a1"), Parents: names(t, "b1"), Gen: 3}); e != api.ErrNamed {
		t.Error("Add of another a1:", e)
	}
	wantGraph(t, "behind them", g, made(t, example))
}

// P17.1: New is empty, and each one is another graph.
func TestNew(t *testing.T) {
	g, other := graph.New(), graph.New()
	wantGraph(t, "a new one", g, nil)
	if g.Has(name(t, "a1")) || g.Has(api.Name{}) {
		t.Error("an empty graph has a commit")
	}
	if c, e := g.At(name(t, "a1")); e != api.ErrCommit || !sameCommit(c, api.Commit{}) {
		t.Error("At of an empty graph:", c, e)
	}
	if e := g.Add(made(t, "a1")[0]); e != api.OK {
		t.Error("Add:", e)
	}
	wantGraph(t, "behind one commit", g, made(t, "a1"))
	wantGraph(t, "another one", other, nil)
}

// wantRefused holds that Add answers an error and changes nothing.
func wantRefused(t *testing.T, what string, p plain, c api.Commit, want api.Errno) {
	t.Helper()
	g := graphOf(t, p)
	if e := g.Add(c); e != want {
		t.Errorf("%s: Add of %v: %v, not %v", what, c, e, want)
	}
	wantGraph(t, what, g, p)
}

// P17.1: names that may not be, as the commit's own and as its parents'.
func TestAddNames(t *testing.T) {
	p := made(t, example)
	a1, a2, long := name(t, "a1"), name(t, "a2"), strings.Repeat("a", api.MaxLabel)
	for _, n := range []api.Name{
		{}, nameOf(-1, "a", 1), nameOf(api.MaxRepos, "a", 1), nameOf(math.MaxInt, "a", 1), nameOf(math.MinInt, "a", 1),
		nameOf(0, "", 1), nameOf(0, "A", 1), nameOf(0, "a1", 1), nameOf(0, "\xff", 1), nameOf(0, long+"a", 1),
		nameOf(0, "a", 0), nameOf(0, "a", -1), nameOf(0, "a", api.MaxNumber+1), nameOf(0, "a", math.MaxInt64), nameOf(0, "a", math.MinInt64),
	} {
		wantRefused(t, "its own", p, api.Commit{Name: n, Gen: 1}, api.ErrArg)
		wantRefused(t, "its own, behind one", p, api.Commit{Name: n, Parents: []api.Name{a1}, Gen: 2}, api.ErrArg)
		wantRefused(t, "a parent's", p, api.Commit{Name: name(t, "c1"), Parents: []api.Name{n}, Gen: 1}, api.ErrArg)
		wantRefused(t, "its first parent's", p, api.Commit{Name: name(t, "c1"), Parents: []api.Name{n, a2}, Gen: 3}, api.ErrArg)
		wantRefused(t, "its second parent's", p, api.Commit{Name: name(t, "c1"), Parents: []api.Name{a2, n}, Gen: 3}, api.ErrArg)
		wantRefused(t, "behind one that is not there", p, api.Commit{Name: name(t, "c1"), Parents: []api.Name{name(t, "z1"), n}, Gen: 3}, api.ErrArg)
		wantRefused(t, "of one that is there", p, api.Commit{Name: a2, Parents: []api.Name{n}, Gen: 2}, api.ErrArg)
		g := graphOf(t, p)
		if c, e := g.At(n); e != api.ErrCommit || !sameCommit(c, api.Commit{}) || g.Has(n) {
			t.Errorf("At of %v: %v, %v", n, c, e)
		}
	}
	for _, n := range []api.Name{nameOf(api.MaxRepos-1, "a", 1), nameOf(0, long, 1), nameOf(0, "z", api.MaxNumber), nameOf(7, "zzzzzzzzzzzz", api.MaxNumber)} {
		more := slices.Clone(p).with(n, a2).with(name(t, "c1"), n)
		wantGraph(t, "a name at the bound", graphOf(t, more), more)
	}
}

// P17.1: how many parents, and which.
func TestAddParents(t *testing.T) {
	p := made(t, example)
	for _, x := range []struct {
		parents string
		gen     int64
		e       api.Errno
	}{
		{"", 1, api.OK}, {"a1", 2, api.OK}, {"a3", 4, api.OK}, {"a1 a3", 4, api.OK}, {"a3 a1", 4, api.OK}, {"a3 b2", 4, api.OK}, {"b2 a3", 4, api.OK}, {"a1 b1", 3, api.OK},
		{"a1 a2 b1", 3, api.ErrArg}, {"a1 a1 b1", 3, api.ErrArg}, {"a1 a2 a3 b1 b2", 4, api.ErrArg}, {"a1 a2 z1", 3, api.ErrArg},
		{"a1 a1", 2, api.ErrArg}, {"b2 b2", 4, api.ErrArg}, {"z1 z1", 1, api.ErrArg},
		{"z1", 1, api.ErrCommit}, {"z1", 2, api.ErrCommit}, {"a1 z1", 2, api.ErrCommit}, {"z1 a1", 2, api.ErrCommit}, {"c1", 1, api.ErrCommit}, {"1.a1", 2, api.ErrCommit}, {"a4", 2, api.ErrCommit}, {"aa1", 2, api.ErrCommit},
	} {
		c := api.Commit{Name: name(t, "c1"), Parents: names(t, x.parents), Gen: x.gen}
		if x.e != api.OK {
			wantRefused(t, x.parents, p, c, x.e)
			continue
		}
		more := append(slices.Clone(p), c)
		wantGraph(t, x.parents, graphOf(t, more), more)
	}
	wantRefused(t, "very many", p, api.Commit{Name: name(t, "c1"), Parents: slices.Repeat(names(t, "a1"), 100000), Gen: 2}, api.ErrArg)
}

// P17.1: the generation must be the parents'; a parent that is not there is told ahead of it, and it ahead of a name that is taken.
func TestAddGen(t *testing.T) {
	p := made(t, example)
	for _, x := range []struct {
		name, parents string
		gen           int64
	}{
		{"c1", "", 1}, {"c1", "a1", 2}, {"c1", "a2", 3}, {"c1", "a3", 4}, {"c1", "a1 a3", 4}, {"c1", "a3 a1", 4},
		{"a1", "", 1}, {"a2", "a1", 2}, {"a3", "a2 b1", 3}, {"a2", "b2", 4}, {"a1", "a1", 2}, {"a3", "b1 a2", 3},
	} {
		parents := names(t, x.parents)
		for _, gen := range []int64{0, -1, math.MinInt64, 1, 2, 3, 4, 5, x.gen - 1, x.gen + 1, -x.gen, api.MaxNumber - 1, api.MaxNumber, api.MaxNumber + 1, math.MaxInt64} {
			c := api.Commit{Name: name(t, x.name), Parents: parents, Gen: gen}
			if gen != x.gen {
				wantRefused(t, "a generation", p, c, api.ErrArg)
			}
			c.Parents = append(names(t, "z1"), parents...)[:min(2, 1+len(parents))]
			wantRefused(t, "a parent that is not there", p, c, api.ErrCommit)
		}
	}
}

// P17.1: a commit that is there already: alike, with its parents in the other order, with others, with other operations.
func TestAddAgain(t *testing.T) {
	p := made(t, example)
	for i, c := range p {
		p[i].Ops = opsOf(c.Name.Branch.Label)
	}
	for _, c := range p {
		again := c
		for _, ops := range [][]api.Op{c.Ops, nil, opsOf("other"), append(opsOf("more"), c.Ops...)} {
			again.Ops = ops
			wantRefused(t, "again", p, again, api.OK)
		}
	}
	for _, x := range []struct {
		name, parents string
		gen           int64
	}{
		{"a3", "b1 a2", 3}, {"b2", "a2 b1", 3}, {"a3", "a2", 3}, {"a3", "b1", 3}, {"a3", "a2 a1", 3}, {"a3", "", 1},
		{"a2", "", 1}, {"a2", "b1", 3}, {"a2", "a1 b1", 3}, {"a2", "a2", 3}, {"a1", "b1", 3}, {"a1", "a3 b2", 4}, {"a1", "a1", 2},
	} {
		c := api.Commit{Name: name(t, x.name), Parents: names(t, x.parents), Gen: x.gen, Ops: opsOf("a")}
		wantRefused(t, "another "+x.name, p, c, api.ErrNamed)
	}
}

// opsOf is operations, such that may be and such that may not: a graph does not look at them.
func opsOf(key string) []api.Op {
	return []api.Op{
		{Path: []string{"m", key}, Kind: api.Counter, Key: key, Do: api.DoAdd, Number: -7},
		{Kind: api.Set, Key: "", Do: api.DoInsert, Text: strings.Repeat("x", api.MaxText+1)},
		{Path: slices.Repeat([]string{"/"}, api.MaxDepth+1), Kind: -1, Key: "\xff", Do: 99, Number: 1, Text: key},
	}
}

// P17.1: operations are kept as they are, however many.
func TestOps(t *testing.T) {
	p := made(t, example)
	for i, n := range []int{0, 1, 3, api.MaxOps, api.MaxOps + 1} {
		p[i].Ops = slices.Repeat(opsOf("k"), n)[:n]
	}
	wantGraph(t, "with operations", graphOf(t, p), p)
}

// P17.1: names that differ in one part alone are those of different commits.
func TestHas(t *testing.T) {
	var p plain
	for repo := range api.MaxRepos {
		for _, label := range []string{"a", "aa", "ab", "b"} {
			for number := int64(1); number <= 3; number++ {
				p = append(p, api.Commit{Name: nameOf(repo, label, number), Gen: 1})
			}
		}
	}
	for i, one := range p {
		g := graphOf(t, p[i:i+1])
		for j, other := range p {
			if _, e := g.At(other.Name); g.Has(other.Name) != (i == j) || (e == api.OK) != (i == j) {
				t.Fatalf("Has of %v in a graph of %v: %v, %v", other.Name, one.Name, g.Has(other.Name), e)
			}
		}
	}
	slices.Reverse(p)
	wantGraph(t, "commits without parents", graphOf(t, p), p)
}

// A nil graph and a zero one: ErrNil ahead of all, and nothing.
func TestNil(t *testing.T) {
	for what, g := range map[string]*graph.Graph{"nil": nil, "zero": {}} {
		for _, l := range [][]api.Name{nil, names(t, "a1"), {{}}, names(t, "a1 a2")} {
			n := append(slices.Clone(l), api.Name{})[0]
			c, at := g.At(n)
			gen, ofGen := g.Gen(l...)
			is, ofIs := g.Is(n, n)
			ancestors, ofAncestors := g.Ancestors(l...)
			heads, ofHeads := g.Heads(l...)
			common, ofCommon := g.Common(l, l)
			missing, ofMissing := g.Missing(l, l)
			gone, ofKeep := g.Keep(l...)
			for i, e := range []api.Errno{g.Add(api.Commit{Name: n, Gen: 1}), g.Add(api.Commit{Name: n, Parents: l}), at, ofGen, ofIs, ofAncestors, ofHeads, ofCommon, ofMissing, ofKeep} {
				if e != api.ErrNil {
					t.Errorf("%s: the call %d: %v", what, i, e)
				}
			}
			if !sameCommit(c, api.Commit{}) || gen != 0 || is || gone != 0 || len(ancestors)+len(heads)+len(common)+len(missing) > 0 {
				t.Errorf("%s: an answer beside ErrNil: %v %v %v %v %v %v %v %v", what, c, gen, is, gone, ancestors, heads, common, missing)
			}
			if g.Has(n) || g.Len() != 0 {
				t.Errorf("%s has commits", what)
			}
		}
		for range g.All() {
			t.Errorf("%s: All tells a commit", what)
		}
		if g.Copy() != nil {
			t.Errorf("%s: Copy is a graph", what)
		}
	}
}
