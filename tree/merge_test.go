package tree_test

import (
	"math/rand"
	"slices"
	"testing"

	"estuary/api"
	"estuary/tree"
	"estuary/walk"
)

// wantMerge holds Merge, either side first, against layer 9's Three of each thing, and what it took against all nodes. No stamp has two texts in the three.
func wantMerge(t *testing.T, what string, base, a, b grown) grown {
	t.Helper()
	want := three(t, base.want, a.want, b.want)
	switch {
	case base.m.Same(a.m):
		want = b.want
	case base.m.Same(b.m), a.m.Same(b.m):
		want = a.want
	}
	m, took := tree.Merge(base.m, a.m, b.m)
	wantTree(t, what, m, want)
	wantTook(t, what, took, m, base.m, a.m, b.m)
	other, took := tree.Merge(base.m, b.m, a.m)
	wantTree(t, what+", the other one first", other, want)
	wantTook(t, what+", the other one first", took, other, base.m, b.m, a.m)
	if !m.Alike(other) || !other.Alike(m) {
		t.Fatalf("%s: either side first is not alike", what)
	}
	return grown{m, want, max(a.gen, b.gen)}
}

func wantTook(t *testing.T, what string, took api.Tally, m, base, a, b tree.Tree) {
	t.Helper()
	if took.Nodes != m.Len() || took.New != newNodes(m, base, a, b) || took.Reads < 0 {
		t.Fatalf("%s: took %+v, of %d nodes %d new ones", what, took, m.Len(), newNodes(m, base, a, b))
	}
	if took.Reads == 0 && !m.Same(a) && !m.Same(b) {
		t.Fatalf("%s: nothing read, and neither side", what)
	}
}

// of is a tree behind operations, with what it is to hold.
func of(t *testing.T, from grown, side int, ops ...api.Op) grown {
	t.Helper()
	for _, o := range ops {
		s := stampOf(from.gen+1, side, "a", 1, 0)
		m, e := from.m.Do(o, s)
		if e != api.OK {
			t.Fatalf("Do %+v: %v", o, e)
		}
		from = grown{m, from.want.behind(t, o, s), from.gen + 1}
	}
	return from
}

// P15.3: what each two operations of two sides come to, over each third one, thing by thing.
func TestMergeEachDo(t *testing.T) {
	for _, path := range []string{"", "m/n"} {
		for _, ahead := range append(eachDo(path), add("other", "c", 1)) {
			for _, x := range append(eachDo(path), insert("x", "s", "x")) {
				for _, y := range append(eachDo(path), push(path, "y", "x")) {
					base := of(t, grown{}, 0, ahead)
					wantMerge(t, "each Do", base, of(t, base, 1, x), of(t, base, 2, y))
				}
			}
		}
	}
}

// P15.3: the document's examples of three run together.
func TestMergeExamples(t *testing.T) {
	show := func(m grown) []api.Line { return m.m.Show() }
	base := of(t, grown{}, 0, add("", "c", 1))
	m := wantMerge(t, "counters", base, of(t, base, 1, add("", "c", 3)), of(t, base, 2, add("", "c", 4)))
	if l := show(m); len(l) != 1 || l[0].Number != 8 {
		t.Error("counters:", l)
	}
	base = of(t, grown{}, 0, insert("", "s", "x"))
	m = wantMerge(t, "sets", base, of(t, base, 1, remove("", "s", "x")), of(t, base, 2, insert("", "s", "x")))
	if l := show(m); !slices.Equal(l[0].Texts, []string{"x"}) {
		t.Error("a new tag was not seen:", l)
	}
	base = of(t, grown{}, 0, push("", "q", "1"), push("", "q", "2"), push("", "q", "3"))
	m = wantMerge(t, "queues", base, of(t, base, 1, pop("", "q")), of(t, base, 2, pop("", "q"), pop("", "q")))
	if l := show(m); !slices.Equal(l[0].Texts, []string{"3"}) {
		t.Error("both took 1 away:", l)
	}
	base = of(t, grown{}, 0, write("", "r", "p"))
	m = wantMerge(t, "registers", base, of(t, base, 1, write("", "r", "q")), of(t, base, 2, write("", "r", "r")))
	if l := show(m); !slices.Equal(l[0].Texts, []string{"q", "r"}) {
		t.Error("both writes:", l)
	}
	if l := show(of(t, m, 0, write("", "r", "s"))); !slices.Equal(l[0].Texts, []string{"s"}) {
		t.Error("a write that sees both:", l)
	}
}

// P15.3: sums go round.
func TestMergeRound(t *testing.T) {
	for _, n := range []int64{-1 << 63, -1, 0, 1, 1<<63 - 1} {
		for _, x := range []int64{-1 << 63, -1, 1, 1<<63 - 1} {
			base := of(t, grown{}, 0, add("m", "c", n))
			wantMerge(t, "sums", base, of(t, base, 1, add("m", "c", x)), of(t, base, 2, add("m", "c", 1<<63-1)))
			wantMerge(t, "sums without a base", grown{}, of(t, base, 1, add("m", "c", x)), of(t, base, 2, add("m", "c", 1<<63-1)))
		}
	}
}

// P15.5: where two of the three are one tree, the third one is the answer, itself, and nothing is read or made.
func TestMergeSame(t *testing.T) {
	chance := rand.New(rand.NewSource(5))
	l := []grown{{want: plain{}}}
	for range 60 {
		l = append(l, l[len(l)-1].next(t, chance, 0))
	}
	for range 200 {
		x, y := l[chance.Intn(len(l))].m, l[chance.Intn(len(l))].m
		for i, c := range [][4]tree.Tree{{x, x, x, x}, {x, x, y, y}, {x, y, x, y}, {x, y, y, y}, {{}, {}, x, x}, {{}, x, {}, x}, {x, {}, {}, {}}, {x, x, {}, {}}, {x, {}, x, {}}} {
			m, took := tree.Merge(c[0], c[1], c[2])
			if !m.Same(c[3]) || took != (api.Tally{Nodes: c[3].Len()}) {
				t.Errorf("%d: Same: %v, took %+v of %d", i, m.Same(c[3]), took, c[3].Len())
			}
		}
	}
}

// P15.3, P15.5: sides that go on and merge, one base behind the other, at the root and within maps; what is behind is the history of both, and elder trees stay as they were.
func TestMergeHistories(t *testing.T) {
	chance := rand.New(rand.NewSource(3))
	for range 12 {
		base := grown{want: plain{}}
		kept := []grown{base}
		for range 5 {
			side := [3]grown{base, base, base}
			for range 4 + chance.Intn(20) {
				i := chance.Intn(len(side))
				side[i] = side[i].next(t, chance, i)
			}
			two := wantMerge(t, "two sides", base, side[0], side[1])
			next := wantMerge(t, "the third one", base, two, side[2])
			again := wantMerge(t, "in another order", base, wantMerge(t, "two others", base, side[2], side[1]), side[0])
			if !next.m.Alike(again.m) {
				t.Fatal("three sides in two orders are not alike")
			}
			kept = append(kept, side[0], side[1], side[2], two, next)
			base = next
		}
		for _, g := range kept {
			wantTree(t, "an elder tree", g.m, g.want)
		}
	}
}

// P15.3, P15.5: any base and one side, the elder one being either, or apart, and the other side made apart: a thing that just one side has is as it is there, whichever nodes the others share.
func TestMergeApart(t *testing.T) {
	chance := rand.New(rand.NewSource(4))
	for round := range 6 {
		l, apart := []grown{{want: plain{}}}, grown{want: plain{}, gen: 1000}
		for i := range 40 {
			from := l[max(0, len(l)-1-chance.Intn(4))]
			from.gen = int64(i) // no two of them have one stamp
			l = append(l, from.next(t, chance, 0))
		}
		for range 10 * round {
			apart = apart.next(t, chance, 1)
		}
		for range 25 {
			base, a := l[chance.Intn(len(l))], l[chance.Intn(len(l))]
			wantMerge(t, "a side that was made apart", base, a, apart)
			wantMerge(t, "a base that was made apart", apart, a, grown{want: plain{}})
		}
	}
}

// P15.3: a thing that base and one side have, with the same nodes, stays as it is there, though the other side lacks it.
func TestMergeLacking(t *testing.T) {
	for _, path := range []string{"", "m", "m/n"} {
		var ops []api.Op
		for _, o := range eachDo(path) {
			for _, key := range []string{"d", "f", "h"} {
				o.Key = key
				ops = append(ops, o)
			}
		}
		base := of(t, grown{}, 0, ops...)
		a := of(t, base, 1, add("", "z", 1))
		for n := range ops {
			b := of(t, grown{gen: 100}, 2, append(slices.Clone(ops[:n]), add("", "a", 1))...)
			wantMerge(t, "lacking", base, a, b)
			c := of(t, of(t, grown{}, 0, ops[:n]...), 2, add("", "y", 1))
			wantMerge(t, "lacking, of one", base, a, c)
		}
	}
}

// countOf is what a walk over things takes, with the walks within them.
func countOf(base, a, b things) api.Count {
	var sum api.Count
	rule := func(_ string, base, a, b api.Part[tree.Thing]) (tree.Thing, bool) {
		if !a.Has || !b.Has {
			return tree.Thing{}, true
		}
		_, c := walk.Elements(base.Value.Elements, a.Value.Elements, b.Value.Elements)
		sum.Reads += c.Reads + countOf(base.Value.Things, a.Value.Things, b.Value.Things).Reads
		return tree.Thing{}, true
	}
	_, c, _ := walk.Run(base, a, b, rule)
	sum.Reads += c.Reads
	return sum
}

// P15.3: Reads are those of all maps: the root's, those within it, those of elements.
func TestMergeReads(t *testing.T) {
	base := of(t, grown{}, 0, add("", "c", 1), insert("", "s", "x"), add("m", "c", 1), insert("m", "s", "x"), add("m/n", "c", 1))
	for _, c := range []struct {
		x, y  []api.Op
		reads int
	}{
		{[]api.Op{add("", "z", 1)}, nil, 0},
		{[]api.Op{insert("", "e", "x")}, []api.Op{insert("", "e", "y")}, -1},
		{[]api.Op{add("m/n", "c", 1)}, []api.Op{add("m/n", "c", 2)}, -1},
		{[]api.Op{insert("m", "s", "y")}, []api.Op{insert("m", "s", "z")}, -1},
		{[]api.Op{insert("m", "s", "y"), write("", "r", "x"), push("m/n", "q", "x")}, []api.Op{remove("m", "s", "x"), write("", "r", "y"), push("m/n", "q", "x")}, -1},
	} {
		a, b := of(t, base, 1, c.x...), of(t, base, 2, c.y...)
		m, took := tree.Merge(base.m, a.m, b.m)
		if c.reads < 0 {
			c.reads = countOf(base.m.Map(), a.m.Map(), b.m.Map()).Reads
		}
		if took.Reads != c.reads || took.New != newNodes(m, base.m, a.m, b.m) {
			t.Errorf("took %+v, not %d reads, of %v", took, c.reads, m.Show())
		}
	}
	// By hand: the root's one node, the map's, the counter's beside a map's that is the same.
	one := of(t, grown{}, 0, add("m", "c", 1))
	_, took := tree.Merge(one.m, of(t, one, 1, add("m", "c", 2)).m, of(t, one, 2, add("m", "c", 3)).m)
	if took != (api.Tally{Nodes: 2, New: 2, Reads: 2}) {
		t.Errorf("by hand: %+v", took)
	}
	// The root's node, the set's: x, which both have, y, z.
	set := of(t, grown{}, 0, insert("", "s", "x"))
	_, took = tree.Merge(set.m, of(t, set, 1, insert("", "s", "y")).m, of(t, set, 2, insert("", "s", "z")).m)
	if took.Nodes != 4 || took.Reads < 2 || took.Reads > 4 {
		t.Errorf("a set by hand: %+v", took)
	}
}

// P15.5, P0.4: of great trees that differ in little just what leads there is read and made.
func TestMergeUnread(t *testing.T) {
	base := great(t)
	a := done(t, base, 9000, add("", number(17), 1), add("m5/n", number(3), 1), push("m7", "q", "x"), add("", "new", 1))
	b := done(t, base, 9100, add("", number(900), 1), add("m5/n", number(30), 1), insert("m8", "s", "y"), add("", "newer", 1))
	m, took := tree.Merge(base, a, b)
	if took.Nodes != m.Len() || took.New != newNodes(m, base, a, b) {
		t.Errorf("took %+v of %d, %d new ones", took, m.Len(), newNodes(m, base, a, b))
	}
	if took.Reads == 0 || took.Reads > 120 || took.New > 240 {
		t.Errorf("of %d nodes %d were read and %d made", m.Len(), took.Reads, took.New)
	}
	for _, c := range []struct {
		path string
		key  string
		n    int64
	}{{"", number(17), 1}, {"", number(900), 1}, {"m5/n", number(3), 1}, {"m5/n", number(30), 1}, {"", "new", 1}, {"", "newer", 1}, {"m6/n", number(3), 0}} {
		if l, has := m.Line(pathOf(c.path), api.Counter, c.key); !has || l.Number != c.n {
			t.Errorf("at %s %s: %v, %v", c.path, c.key, l, has)
		}
	}
}
