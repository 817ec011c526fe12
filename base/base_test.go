package base_test

import (
	"slices"
	"strings"
	"testing"

	"estuary/api"
	"estuary/base"
	"estuary/graph"
	"estuary/tree"
)

const example = "a1; a2 a1; b1 a1; a3 a2 b1; b2 b1 a2"

func TestTheChaptersExamples(t *testing.T) {
	h := made(t, example)
	h = h.again()
	s, of, e := h.bases.Of(name(t, "a3"), name(t, "b2"))
	if want := (api.Based{Common: names(t, "a2 b1"), Depth: 1, Merges: 1, Kept: 1}); e != api.OK || !sameBased(of, want) || number(t, s) != 7 {
		t.Error("Of a3 b2:", of, e, number(t, s))
	}
	if s, e := h.bases.State(names(t, "a2 b1")...); e != api.OK || number(t, s) != 7 {
		t.Error("State a2 b1:", e, number(t, s))
	}
	if s, e := h.bases.State(); e != api.OK || s.Len() != 0 || len(s.Show()) != 0 {
		t.Error("State of none:", e, s.Show())
	}
	for text, want := range map[string]int{"a2 b1": 1, "a1": 0, "": 0} {
		if d, e := h.bases.Depth(names(t, text)...); e != api.OK || d != want {
			t.Error("Depth", text, d, e)
		}
	}
	if s, _, e := h.bases.Merge(name(t, "a2"), name(t, "b1")); e != api.OK || number(t, s) != 7 {
		t.Error("Merge a2 b1:", e, number(t, s))
	}
	if _, of, e := h.bases.Of(name(t, "a2"), name(t, "b1")); e != api.OK || !slices.Equal(of.Common, names(t, "a1")) {
		t.Error("Of a2 b1:", of, e)
	}
	if _, _, e := h.bases.Of(name(t, "a3"), name(t, "c9")); e != api.ErrCommit {
		t.Error("Of a3 c9:", e)
	}
	if b, e := base.New(nil); b != nil || e != api.ErrNil {
		t.Error("New(nil):", e)
	}
}

func TestAMergeOfTwoBranches(t *testing.T) {
	h := fresh(t)
	m1, m2, side := nameOf(0, "main", 1), nameOf(0, "main", 2), nameOf(0, "side", 1)
	h.commit(m1, nil)
	h.commit(m2, []api.Op{add(3)}, m1)
	h.commit(side, []api.Op{add(4)}, m1)
	s, of, e := h.bases.Merge(m2, side)
	if want := (api.Based{Common: []api.Name{m1}, Merges: 1}); e != api.OK || !sameBased(of, want) || number(t, s) != 7 {
		t.Error("Merge:", of, e, number(t, s))
	}
}

func TestCrossedBranchesCountOnce(t *testing.T) {
	h := fresh(t)
	l := names(t, "o1 a1 b1 a2 b2 a3 b3")
	h.commit(l[0], nil)
	h.commit(l[1], []api.Op{add(1)}, l[0])
	h.commit(l[2], []api.Op{add(10)}, l[0])
	h.merge(l[3], l[1], l[2])
	h.merge(l[4], l[2], l[1])
	h.commit(l[5], []api.Op{add(100)}, l[3])
	h.commit(l[6], []api.Op{add(1000)}, l[4])
	s, of, e := h.bases.Of(l[5], l[6])
	if want := (api.Based{Common: l[1:3], Depth: 1, Merges: 1, Kept: 1}); e != api.OK || !sameBased(of, want) || number(t, s) != 11 {
		t.Error("Of:", of, e, number(t, s))
	}
	if s, _, e := h.bases.Merge(l[5], l[6]); e != api.OK || number(t, s) != 1111 {
		t.Error("Merge:", e, number(t, s))
	}
}

func TestWhatIsShownOfSetsQueuesRegisters(t *testing.T) {
	h := fresh(t)
	l := names(t, "o1 a1 b1 a2 a3")
	h.commit(l[0], []api.Op{insert("x"), push("1"), push("2"), push("3"), write("p")})
	h.commit(l[1], []api.Op{remove("x"), pop(), write("q")}, l[0])
	h.commit(l[2], []api.Op{insert("x"), pop(), pop(), write("r")}, l[0])
	s, _ := h.wantMerge(l[1], l[2])
	if set, queue, register := texts(s, api.Set, "s"), texts(s, api.Queue, "q"), texts(s, api.Register, "r"); set != "x" || queue != "3" || register != "q r" {
		t.Errorf("the set has %q, the queue %q, the register %q", set, queue, register)
	}
	h.merge(l[3], l[1], l[2])
	h.commit(l[4], []api.Op{write("t")}, l[3])
	s, _ = h.wantMerge(l[4], l[2])
	if got := texts(s, api.Register, "r"); got != "t" {
		t.Errorf("the register has %q", got)
	}
}

func TestNewOfNoGraph(t *testing.T) {
	for _, g := range []*graph.Graph{nil, {}} {
		if b, e := base.New(g); b != nil || e != api.ErrNil {
			t.Error("New:", b, e)
		}
	}
}

func TestNoBases(t *testing.T) {
	n := nameOf(0, "a", 1)
	for _, b := range []*base.Bases{nil, {}} {
		state, e1 := b.State(n)
		none, e2 := b.State()
		depth, e3 := b.Depth(n)
		of, based, e4 := b.Of(n, n)
		merged, took, e5 := b.Merge(n, n)
		for i, e := range []api.Errno{e1, e2, e3, e4, e5, b.Put(n, tree.Tree{})} {
			if e != api.ErrNil {
				t.Error(i, e)
			}
		}
		if state.Len()+none.Len()+of.Len()+merged.Len()+depth+b.Forget()+b.Len() != 0 || !isZero(based) || !isZero(took) {
			t.Error("no bases answer something")
		}
	}
}

func TestPut(t *testing.T) {
	h := fresh(t)
	a1, a2, b1, a3 := name(t, "a1"), name(t, "a2"), name(t, "b1"), name(t, "a3")
	state := func(n int64) tree.Tree {
		s, _, _ := tree.Tree{}.DoAll(1, a1, add(n))
		return s
	}
	put := func(n api.Name, by int64, want api.Errno) {
		t.Helper()
		if e := h.bases.Put(n, state(by)); e != want {
			t.Errorf("Put %v: %v, want %v", n, e, want)
		}
	}
	put(a1, 5, api.ErrCommit) // it is not in the graph
	h.inGraph(a1, nil)
	h.inGraph(a2, nil, a1)
	h.inGraph(b1, nil, a1)
	h.inGraph(a3, nil, a2, b1)
	if _, e := h.bases.State(a1); e != api.ErrCommit {
		t.Error("a state that was refused is there:", e)
	}
	put(a2, 5, api.ErrCommit)
	put(a3, 5, api.ErrCommit)
	put(a1, 1, api.OK)
	put(a3, 5, api.ErrCommit)
	put(b1, 3, api.OK)
	put(a3, 5, api.ErrCommit) // its first parent's is not there
	put(a2, 2, api.OK)
	if _, e := h.bases.State(a3); e != api.ErrCommit {
		t.Error("a state that was refused is there:", e)
	}
	put(a3, 4, api.OK)
	for i, n := range []api.Name{a1, a2, b1, a3} {
		put(n, 9, api.OK) // what is there stays
		if s, e := h.bases.State(n); e != api.OK || number(t, s) != int64(1+i) {
			t.Error("State", n, e, number(t, s))
		}
	}
	if h.bases.Len() != 0 {
		t.Error("states of commits are counted as lists'")
	}
}

func TestPutWithoutTheSecondParent(t *testing.T) {
	h := made(t, "a1; b1")
	h.inGraph(name(t, "b2"), nil, name(t, "b1"))
	h.inGraph(name(t, "a2"), nil, name(t, "a1"), name(t, "b2"))
	if e := h.bases.Put(name(t, "a2"), tree.Tree{}); e != api.ErrCommit {
		t.Error(e)
	}
}

func TestNamesThatAreNone(t *testing.T) {
	h := made(t, example)
	a1 := name(t, "a1")
	wrong := []api.Name{
		{}, nameOf(0, "c", 1), nameOf(1, "a", 1), nameOf(0, "a", 4), nameOf(0, "a", 0), nameOf(0, "a", -1), nameOf(-1, "a", 1),
		nameOf(0, "", 1), nameOf(0, "A", 1), nameOf(0, "a\xff", 1), nameOf(0, strings.Repeat("a", 1000), 1), nameOf(1<<60, "a", 1<<62),
	}
	for _, n := range wrong {
		s1, e1 := h.bases.State(a1, n)
		d, e2 := h.bases.Depth(n, a1)
		s2, of, e3 := h.bases.Of(n, a1)
		s3, took, e4 := h.bases.Merge(a1, n)
		_, e5 := h.bases.State(n)
		_, _, e6 := h.bases.Of(a1, n)
		_, _, e7 := h.bases.Merge(n, n)
		for i, e := range []api.Errno{e1, e2, e3, e4, e5, e6, e7, h.bases.Put(n, tree.Tree{})} {
			if e != api.ErrCommit {
				t.Error(i, n, e)
			}
		}
		if s1.Len()+s2.Len()+s3.Len()+d != 0 || !isZero(of) || !isZero(took) {
			t.Error(n, "answers beside an error")
		}
	}
	h.wantLen("wrong names")
}

func TestCommitsThatAreAddedLater(t *testing.T) {
	h := made(t, example)
	a3, b2, a4 := name(t, "a3"), name(t, "b2"), name(t, "a4")
	h.wantOf(a3, b2)
	h.inGraph(a4, []api.Op{add(100)}, a3)
	if _, e := h.bases.State(a4); e != api.ErrCommit {
		t.Error("State of a commit without one:", e)
	}
	if _, _, e := h.bases.Of(a4, b2); e != api.ErrCommit {
		t.Error("Of a commit without a state:", e)
	}
	s, _, _ := h.states[a3].DoAll(4, a4, add(100))
	h.put(a4, s)
	h.merge(name(t, "b3"), b2, a4)
	h.wantAll()
}

func TestTheGraphIsNotChanged(t *testing.T) {
	h := made(t, example)
	was := h.graph.Copy()
	h.wantAll()
	h.bases.Put(nameOf(0, "z", 1), tree.Tree{})
	h.bases.Forget()
	if !graph.Same(h.graph, was) {
		t.Error("the graph was changed")
	}
}

func TestTwoOverOneGraph(t *testing.T) {
	h := made(t, example)
	other := basesOver(t, h.graph)
	if _, e := other.State(name(t, "a1")); e != api.ErrCommit || other.Len() != 0 {
		t.Error("others' states are there:", e, other.Len())
	}
	h.wantOf(name(t, "a3"), name(t, "b2"))
	apart := h.again()
	apart.wantOf(name(t, "a3"), name(t, "b2"))
	apart.wantForget()
	h.wantLen("others were forgotten")
}

// wantForget lets all lists go.
func (h *held) wantForget() {
	h.t.Helper()
	if n := h.bases.Forget(); n != len(h.kept) {
		h.t.Errorf("Forget: %d, want %d", n, len(h.kept))
	}
	clear(h.kept)
	h.wantLen("Forget")
}

func TestForget(t *testing.T) {
	h := made(t, example+"; c1 a1; a4 a3 c1; c2 c1 b2")
	h.wantAll()
	if len(h.kept) < 2 {
		t.Fatal("few lists were kept")
	}
	h.wantForget()
	h.wantForget()
	h.wantState(names(t, "a2")...) // commits' own states stay
	h.wantAll()
}
