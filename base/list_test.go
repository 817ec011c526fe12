package base_test

import (
	"testing"

	"estuary/api"
	"estuary/tree"
)

// crossed is two branches that merge one another so many times: the heads' list is so deep.
func crossed(t *testing.T, times int) *held {
	t.Helper()
	h := made(t, "o1; a1 o1; b1 o1")
	for i := range int64(times) {
		h.cross(i + 1)
	}
	return h
}

// cross merges a's and b's heads of that number, each into the other one.
func (h *held) cross(i int64) {
	h.t.Helper()
	a, b := nameOf(0, "a", i), nameOf(0, "b", i)
	h.merge(nameOf(0, "a", i+1), a, b)
	h.merge(nameOf(0, "b", i+1), b, a)
}

func TestStates(t *testing.T) {
	h := made(t, "o1; a1 o1; b1 o1; c1 o1; 1.a1; a2 a1 b1; b2 b1 c1; c2 c1 a1")
	lists := []string{
		"", "o1", "a2", "a2 a2 a2", "o1 a1", "a1 o1", "a2 o1 a1 a2", "a1 b1", "b1 a1", "b1 o1 a1 b1 o1",
		"a2 b2", "b2 a2 c2", "c2 b2 a2", "a2 b2 c2", "1.a1 a1", "1.a1 a2 b2 c2", "c1 b1 a1 o1 1.a1", "1.a1 o1", "a2 b1",
	}
	for range 2 {
		for _, s := range lists {
			h.wantDepth(h.named(s)...)
			h.wantState(h.named(s)...)
		}
	}
	h.wantAll()
}

func TestNothingIsKeptOfOneHead(t *testing.T) {
	h := made(t, "a1; a2 a1; b1 a1")
	for _, s := range []string{"", "a1", "a2 a1", "a1 b1"} {
		h.wantState(h.named(s)...)
		h.wantDepth(h.named(s)...)
	}
	h.wantMerge(name(t, "a2"), name(t, "b1"))
	if h.bases.Len() != 0 {
		t.Error("lists of one are kept")
	}
}

// A list's beginnings are lists, too: they are worked out with it, and kept.
func TestBeginningsAreKept(t *testing.T) {
	h := made(t, "a1; b1; c1; d1")
	h.wantState(h.named("d1 c1 a1 b1")...)
	if h.bases.Len() != 3 {
		t.Error(h.bases.Len(), "lists are kept")
	}
	for _, s := range []string{"a1 b1", "c1 b1 a1"} {
		h.wantState(h.named(s)...)
	}
	if h.bases.Len() != 3 {
		t.Error(h.bases.Len(), "lists are kept behind asking again")
	}
}

func TestListsAreToldApart(t *testing.T) {
	h := made(t, "a1; 1.a1; b1; a2; aa1; 1.a2; a11; 1.b1; a111; 1.aa11")
	for _, x := range h.order {
		for _, y := range h.order {
			h.wantState(x, y)
			for _, z := range h.order {
				h.wantState(x, y, z)
			}
		}
	}
}

func TestStatesThatAreNotThere(t *testing.T) {
	h := made(t, "a1; a2 a1; b1 a1")
	h.inGraph(name(t, "a3"), nil, h.named("a2 b1")...)
	h.inGraph(name(t, "b2"), nil, h.named("b1 a2")...)
	h.inGraph(name(t, "c1"), nil)
	for _, s := range []string{"a3", "a3 b2", "a1 a3", "a3 a1", "c1 a1", "a1 c1", "c1 a3 b2", "a2 b1 c1"} {
		l := h.named(s)
		state, e := h.bases.State(l...)
		h.wantNone("State "+s, state, e, api.ErrCommit)
		h.wantDepth(l...)
		x, y := l[0], l[len(l)-1]
		state, of, e := h.bases.Of(x, y)
		h.wantNone("Of "+s, state, e, api.ErrCommit)
		state, took, e := h.bases.Merge(x, y)
		h.wantNone("Merge "+s, state, e, api.ErrCommit)
		if !isZero(of) || !isZero(took) {
			t.Error(s, of, took)
		}
	}
	h.wantState(h.named("a2 b1")...)
}

func TestTheDepthThatGoes(t *testing.T) {
	h := crossed(t, api.MaxBase)
	x, y := nameOf(0, "a", api.MaxBase+1), nameOf(0, "b", api.MaxBase+1)
	h = h.again()
	h.wantDepth(nameOf(0, "a", api.MaxBase), nameOf(0, "b", api.MaxBase))
	if d, e := h.bases.Depth(x, y); d != api.MaxBase+1 || e != api.OK {
		t.Error("Depth:", d, e)
	}
	s, of, e := h.bases.Of(x, y)
	if e != api.OK || of.Depth != api.MaxBase || of.Merges != api.MaxBase || of.Kept != api.MaxBase || number(t, s) != 7 {
		t.Error("Of:", of, e, number(t, s))
	}
	s, of, e = h.bases.Merge(x, y)
	if e != api.OK || of.Depth != api.MaxBase || of.Merges != 1 || of.Kept != api.MaxBase || number(t, s) != 7 {
		t.Error("Merge:", of, e, number(t, s))
	}
	s, e = h.bases.State(x, y)
	if e != api.ErrDepth || s.Len() != 0 || h.bases.Len() != api.MaxBase {
		t.Error("State:", e, s.Len(), h.bases.Len())
	}
	s, e = h.bases.State(nameOf(0, "a", api.MaxBase), nameOf(0, "b", api.MaxBase))
	if e != api.OK || number(t, s) != 7 || h.bases.Len() != api.MaxBase {
		t.Error("State:", e, number(t, s), h.bases.Len())
	}
}

// The refused ones are asked first, of bases that have kept nothing: they must keep nothing either.
func TestTheDepthThatIsRefused(t *testing.T) {
	for _, ahead := range []bool{false, true} {
		h := crossed(t, api.MaxBase).again()
		end := int64(api.MaxBase + 1)
		if ahead {
			h.wantState(nameOf(0, "a", end-1), nameOf(0, "b", end-1))
		}
		h.wantState(nameOf(0, "a", end), nameOf(0, "b", end))
		h.inGraph(nameOf(0, "a", end+1), nil, nameOf(0, "a", end), nameOf(0, "b", end))
		h.inGraph(nameOf(0, "b", end+1), nil, nameOf(0, "b", end), nameOf(0, "a", end))
		h.put(nameOf(0, "a", end+1), h.states[nameOf(0, "a", end)])
		h.put(nameOf(0, "b", end+1), h.states[nameOf(0, "a", end)])
		for i := range int64(2) {
			x, y := nameOf(0, "a", end+i), nameOf(0, "b", end+i)
			h.wantDepth(x, y)
			h.wantDepth(y, x, nameOf(0, "o", 1))
			h.wantState(x, y)
			h.wantState(nameOf(0, "o", 1), y, x)
			h.wantOf(x, y)
			h.wantMerge(y, x)
		}
	}
}

// What is not there comes ahead of what is too deep, wherever it stands.
func TestWhatIsNotThereAndTooDeep(t *testing.T) {
	h := crossed(t, api.MaxBase).again()
	end := int64(api.MaxBase + 2)
	x, y := nameOf(0, "a", end), nameOf(0, "b", end)
	h.inGraph(x, nil, nameOf(0, "a", end-1), nameOf(0, "b", end-1))
	h.inGraph(y, nil, nameOf(0, "b", end-1), nameOf(0, "a", end-1))
	for _, ahead := range []string{"", "y"} {
		if ahead == "y" {
			h.put(y, h.states[nameOf(0, "b", end-1)])
		}
		for range 2 {
			s, of, e := h.bases.Of(x, y)
			h.wantNone("Of", s, e, api.ErrCommit)
			s, took, e := h.bases.Merge(x, y)
			h.wantNone("Merge", s, e, api.ErrCommit)
			if !isZero(of) || !isZero(took) {
				t.Error(of, took)
			}
			s, e = h.bases.State(x, y)
			h.wantNone("State", s, e, api.ErrCommit)
			h.wantDepth(x, y)
			x, y = y, x
		}
	}
	h.put(x, h.states[nameOf(0, "a", end-1)])
	h.wantState(x, y)
	h.wantOf(x, y)
	_, e := h.bases.Depth(x, y, nameOf(0, "c", 9))
	if e != api.ErrCommit {
		t.Error("Depth:", e)
	}
}

// A list is as deep as its deepest beginning, whatever the last commit's base is.
func TestTheDepthOfBeginnings(t *testing.T) {
	h := crossed(t, 3)
	h.commit(name(t, "z1"), []api.Op{add(64)})
	h.commit(name(t, "z2"), []api.Op{add(128)}, name(t, "o1"))
	h.wantDepth(h.named("a4 b4")...)
	h.wantDepth(h.named("a4 b4 z1")...)
	h.wantDepth(h.named("a4 b4 z2")...)
	if d, e := h.bases.Depth(h.named("z2 z1 a4 b4")...); d != 4 || e != api.OK {
		t.Error("Depth:", d, e)
	}
	h.wantState(h.named("z2 z1 a4 b4")...)
	h.wantDepth(h.named("z2 z1 a4 b4")...)
	h.wantDepth(h.named("z1 a4 b4")...)
}

// The beginning alone is too deep; it is kept at the bound, too.
func TestBeginningsThatAreTooDeep(t *testing.T) {
	for _, times := range []int{api.MaxBase - 1, api.MaxBase, api.MaxBase + 1} {
		h := crossed(t, times).again()
		end := int64(len(h.order)-1) / 2
		h.commit(name(t, "z1"), []api.Op{add(64)})
		l := []api.Name{nameOf(0, "a", end), nameOf(0, "b", end), name(t, "z1")}
		h.wantDepth(l...)
		h.wantState(l...)
		h.wantState(l[:2]...)
		h.wantDepth(l...)
		h.wantState(l...)
	}
}

// without adds a merge with a state that is not asked for.
func (h *held) without(n api.Name, parents ...api.Name) {
	h.t.Helper()
	gen, _ := h.graph.Gen(parents...)
	if e := h.graph.Add(api.Commit{Name: n, Gen: gen, Parents: parents}); e != api.OK {
		h.t.Fatal(n, e)
	}
	if e := h.bases.Put(n, tree.Tree{}); e != api.OK {
		h.t.Fatal(n, e)
	}
}

func TestALongCross(t *testing.T) {
	h := made(t, "o1; a1 o1; b1 o1")
	const end = 10000
	for i := range int64(end) {
		a, b := nameOf(0, "a", i+1), nameOf(0, "b", i+1)
		h.without(nameOf(0, "a", i+2), a, b)
		h.without(nameOf(0, "b", i+2), b, a)
	}
	x, y := nameOf(0, "a", end), nameOf(0, "b", end)
	if d, e := h.bases.Depth(x, y); d != api.MaxBase+1 || e != api.OK {
		t.Error("Depth:", d, e)
	}
	_, e1 := h.bases.State(x, y)
	_, _, e2 := h.bases.Of(x, y)
	_, _, e3 := h.bases.Merge(x, y)
	if e1 != api.ErrDepth || e2 != api.ErrDepth || e3 != api.ErrDepth || h.bases.Len() != 0 {
		t.Error(e1, e2, e3, h.bases.Len())
	}
}

// layers is so many layers of five commits each, all of which have all of the layer ahead as ancestors; and the last layer.
func layers(t *testing.T, deep int) (*held, []api.Name) {
	t.Helper()
	h := made(t, "a1; b1; c1; d1; e1")
	heads := h.order
	for range deep {
		var next []api.Name
		for i, at := range heads {
			for step := range 4 {
				n := at
				n.Number++
				h.merge(n, at, heads[(i+step+1)%5])
				at = n
			}
			next = append(next, at)
		}
		heads = next
	}
	return h, heads
}

func TestWideLayers(t *testing.T) {
	for _, deep := range []int{4, api.MaxBase} {
		h, heads := layers(t, deep)
		h = h.again()
		for range 2 {
			h.wantDepth(heads...)
			h.wantDepth(heads[:2]...)
			h.wantOf(heads[0], heads[4])
			h.wantMerge(heads[3], heads[1])
			h.wantState(heads...)
		}
	}
}
