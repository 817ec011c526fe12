package base_test

import (
	"slices"
	"strings"
	"testing"

	"estuary/api"
	"estuary/base"
	"estuary/graph"
	"estuary/tree"
)

// held is a graph, bases over it, and the plain history that they are held against.
type held struct {
	t       *testing.T
	graph   *graph.Graph
	bases   *base.Bases
	states  map[api.Name]tree.Tree
	order   []api.Name // in which they were put
	history history
	kept    map[string]bool
}

func fresh(t *testing.T) *held {
	t.Helper()
	g := graph.New()
	return &held{t, g, basesOver(t, g), map[api.Name]tree.Tree{}, nil, newHistory(), map[string]bool{}}
}

func basesOver(t *testing.T, g *graph.Graph) *base.Bases {
	t.Helper()
	b, e := base.New(g)
	if b == nil || e != api.OK {
		t.Fatal("New:", e)
	}
	return b
}

// again is other bases over the same graph, with the same states, which were asked nothing yet.
func (h *held) again() *held {
	h.t.Helper()
	other := *h
	other.bases, other.kept = basesOver(h.t, h.graph), map[string]bool{}
	for _, n := range h.order {
		if e := other.bases.Put(n, h.states[n]); e != api.OK {
			h.t.Fatal("Put", n, e)
		}
	}
	return &other
}

// inGraph adds a commit to the graph and to the plain history; its state is not put.
func (h *held) inGraph(n api.Name, ops []api.Op, parents ...api.Name) int64 {
	h.t.Helper()
	gen, _ := h.graph.Gen(parents...)
	c := api.Commit{Name: n, Gen: gen, Parents: parents, Ops: ops}
	if e := h.graph.Add(c); e != api.OK {
		h.t.Fatal("Add", n, e)
	}
	h.history.with(c)
	return gen
}

func (h *held) put(n api.Name, s tree.Tree) {
	h.t.Helper()
	h.states[n], h.order = s, append(h.order, n)
	if e := h.bases.Put(n, s); e != api.OK {
		h.t.Fatal("Put", n, e)
	}
}

// commit is operations done to the state of one parent, or to an empty one.
func (h *held) commit(n api.Name, ops []api.Op, parents ...api.Name) {
	h.t.Helper()
	var s tree.Tree
	if len(parents) > 0 {
		s = h.states[parents[0]]
	}
	s, _, e := s.DoAll(h.inGraph(n, ops, parents...), n, ops...)
	if e != api.OK {
		h.t.Fatal("DoAll", n, e)
	}
	h.put(n, s)
}

// merge is a commit of what Merge answers, if that is not too deep.
func (h *held) merge(n, a, b api.Name) {
	h.t.Helper()
	if s, e := h.wantMerge(a, b); e == api.OK {
		h.inGraph(n, nil, a, b)
		h.put(n, s)
	}
}

// made is the commits of a text like "a1; b1 a1; a2 a1 b1": a name, and its parents'. One that is no merge adds to the counter c: the first one 1, each next one twice as much.
func made(t *testing.T, s string) *held {
	t.Helper()
	h := fresh(t)
	by := int64(1)
	for line := range strings.SplitSeq(s, ";") {
		switch l := names(t, line); len(l) {
		case 3:
			h.merge(l[0], l[1], l[2])
		default:
			h.commit(l[0], []api.Op{add(by)}, l[1:]...)
			by *= 2
		}
	}
	return h
}

// named is the names of a text.
func (h *held) named(s string) []api.Name { return names(h.t, s) }

func isZero(b api.Based) bool { return b.Common == nil && b.Depth == 0 && b.Merges == 0 && b.Kept == 0 }

func sameBased(a, b api.Based) bool {
	return slices.Equal(a.Common, b.Common) && a.Depth == b.Depth && a.Merges == b.Merges && a.Kept == b.Kept
}

// takes is what a list of heads takes: its depth, how many lists are not kept yet. They are kept from then on, if it is not too deep.
func (h *held) takes(heads []api.Name) (depth, merges int) {
	depth = h.history.plain.depth(heads)
	if depth > api.MaxBase {
		return depth, 0
	}
	needs := map[string]bool{}
	h.history.plain.needs(heads, needs)
	for key := range needs {
		if !h.kept[key] {
			merges++
			h.kept[key] = true
		}
	}
	return depth, merges
}

// wantBased holds an answer of Of or Merge against the plain ones; own is 1 of Merge.
func (h *held) wantBased(what string, x, y api.Name, s tree.Tree, of api.Based, e api.Errno, history set, own int) {
	h.t.Helper()
	common := h.history.plain.common([]api.Name{x}, []api.Name{y})
	depth, merges := h.takes(common)
	if depth > api.MaxBase {
		h.wantNone(what, s, e, api.ErrDepth)
		if !isZero(of) {
			h.t.Errorf("%s %v %v: %v beside an error", what, x, y, of)
		}
		return
	}
	if want := (api.Based{Common: common, Depth: depth, Merges: merges + own, Kept: len(h.kept)}); e != api.OK || !sameBased(of, want) {
		h.t.Fatalf("%s %v %v: %v, %v; want %v", what, x, y, of, e, want)
	}
	h.wantLines(what, s, history)
}

func (h *held) wantNone(what string, s tree.Tree, e, want api.Errno) {
	h.t.Helper()
	if e != want || s.Len() != 0 {
		h.t.Errorf("%s: %v, %d nodes; want %v and none", what, e, s.Len(), want)
	}
	h.wantLen(what)
}

func (h *held) wantLines(what string, s tree.Tree, history set) {
	h.t.Helper()
	if got, want := shown(s), h.history.lines(history); got != want {
		h.t.Fatalf("%s shows\n%swant\n%s", what, got, want)
	}
	h.wantLen(what)
}

func (h *held) wantLen(what string) {
	h.t.Helper()
	if n := h.bases.Len(); n != len(h.kept) {
		h.t.Errorf("%s: %d lists are kept, want %d", what, n, len(h.kept))
	}
}

func (h *held) wantOf(x, y api.Name) (tree.Tree, api.Errno) {
	h.t.Helper()
	s, of, e := h.bases.Of(x, y)
	p := h.history.plain
	h.wantBased("Of", x, y, s, of, e, both(p.past(x), p.past(y)), 0)
	return s, e
}

func (h *held) wantMerge(x, y api.Name) (tree.Tree, api.Errno) {
	h.t.Helper()
	s, of, e := h.bases.Merge(x, y)
	h.wantBased("Merge", x, y, s, of, e, h.history.plain.past(x, y), 1)
	return s, e
}

func (h *held) wantState(l ...api.Name) (tree.Tree, api.Errno) {
	h.t.Helper()
	s, e := h.bases.State(l...)
	if depth, _ := h.takes(h.history.plain.heads(setOf(l...))); depth > api.MaxBase {
		h.wantNone("State "+listText(l), s, e, api.ErrDepth)
		return s, e
	}
	if e != api.OK {
		h.t.Fatalf("State %v: %v", l, e)
	}
	h.wantLines("State "+listText(l), s, h.history.plain.past(l...))
	return s, e
}

func (h *held) wantDepth(l ...api.Name) {
	h.t.Helper()
	d, e := h.bases.Depth(l...)
	if want := min(h.history.plain.depth(h.history.plain.heads(setOf(l...))), api.MaxBase+1); e != api.OK || d != want {
		h.t.Errorf("Depth %s: %d, %v; want %d", listText(l), d, e, want)
	}
	h.wantLen("Depth")
}

// wantAll asks each pair of commits everything.
func (h *held) wantAll() {
	h.t.Helper()
	for _, x := range h.order {
		for _, y := range h.order {
			h.wantOf(x, y)
			h.wantMerge(x, y)
			h.wantState(x, y)
			h.wantDepth(x, y)
		}
	}
}
