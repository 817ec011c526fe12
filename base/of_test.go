package base_test

import (
	"math/rand"
	"slices"
	"testing"

	"estuary/api"
	"estuary/tree"
)

func TestOfACommitAndItself(t *testing.T) {
	h := made(t, example)
	for _, n := range h.order {
		s, _ := h.wantOf(n, n)
		if !s.Alike(h.states[n]) {
			t.Error("Of", n, "is not its state")
		}
		s, _ = h.wantMerge(n, n)
		if !s.Alike(h.states[n]) {
			t.Error("Merge", n, "is not its state")
		}
	}
}

func TestOfACommitAndItsAncestor(t *testing.T) {
	h := made(t, example+"; a4 a3; c1")
	last := name(t, "a4")
	for _, x := range h.named("a1 a2 b1 a3") {
		for _, l := range [][]api.Name{{x, last}, {last, x}} {
			s, of, e := h.bases.Of(l[0], l[1])
			if want := (api.Based{Common: []api.Name{x}}); e != api.OK || !sameBased(of, want) || !s.Alike(h.states[x]) {
				t.Error("Of", l, of, e)
			}
			s, took, e := h.bases.Merge(l[0], l[1])
			if want := (api.Based{Common: []api.Name{x}, Merges: 1}); e != api.OK || !sameBased(took, want) || !s.Alike(h.states[last]) {
				t.Error("Merge", l, took, e)
			}
		}
	}
}

func TestOfCommitsThatHaveNoneInCommon(t *testing.T) {
	h := made(t, "a1; b1; a2 a1; b2 b1")
	s, of, e := h.bases.Of(name(t, "a2"), name(t, "b2"))
	if e != api.OK || s.Len() != 0 || len(of.Common) != 0 || of.Depth+of.Merges+of.Kept != 0 {
		t.Error("Of:", of, e, s.Len())
	}
	s, took, e := h.bases.Merge(name(t, "a2"), name(t, "b2"))
	if e != api.OK || number(t, s) != 15 || len(took.Common) != 0 || took.Merges != 1 || took.Depth+took.Kept != 0 {
		t.Error("Merge:", took, e, number(t, s))
	}
}

// A merge is made each time that it is asked for, and keeps no list of the two, also where such a list is kept.
func TestMergesAreCounted(t *testing.T) {
	h := made(t, example)
	h = h.again()
	x, y := name(t, "a3"), name(t, "b2")
	for i, want := range []api.Based{{Merges: 2, Kept: 1}, {Merges: 1, Kept: 1}, {Merges: 1, Kept: 1}, {Merges: 1, Kept: 2}} {
		if i == 3 {
			h.wantState(x, y)
		}
		want.Common, want.Depth = h.named("a2 b1"), 1
		if _, took, e := h.bases.Merge(x, y); e != api.OK || !sameBased(took, want) {
			t.Errorf("Merge, time %d: %v, %v; want %v", i, took, e, want)
		}
	}
}

// What is kept was not merged for it, whatever asked for it.
func TestWhatIsKeptIsNotCounted(t *testing.T) {
	crossed := crossed(t, 5)
	a, b := nameOf(0, "a", 6), nameOf(0, "b", 6)
	for kept := range int64(5) {
		h := crossed.again()
		h.wantState(nameOf(0, "b", kept+1), nameOf(0, "a", kept+1))
		_, of, e := h.bases.Of(a, b)
		if want := (api.Based{Common: h.named("a5 b5"), Depth: 5, Merges: 4 - int(kept), Kept: 5}); e != api.OK || !sameBased(of, want) {
			t.Errorf("Of where %d are kept: %v, %v; want %v", kept+1, of, e, want)
		}
	}
	crossed.wantAll()
}

// One list may be asked for by several others: it is merged once.
func TestOneListOfSeveralIsMergedOnce(t *testing.T) {
	h := made(t, "o1; a1 o1; b1 o1; c1 a1 b1; d1 b1 a1; e1 a1 b1; f1 c1 d1; g1 d1 e1; i1 e1 c1")
	h = h.again()
	h.wantState(h.named("f1 g1 i1")...)
	h.wantForget()
	h.wantOf(name(t, "f1"), name(t, "g1"))
	h.wantOf(name(t, "g1"), name(t, "i1"))
	h.wantAll()
}

func TestAskedAgainNothingIsMerged(t *testing.T) {
	h := crossed(t, 6)
	for _, x := range h.order {
		for _, y := range h.order {
			h := h.again()
			was, _ := h.wantOf(x, y)
			s, of, e := h.bases.Of(x, y)
			if e != api.OK || of.Merges != 0 || !s.Same(was) {
				t.Error("Of", x, y, "again:", of, e)
			}
		}
	}
}

// crossing makes commits at random on branches of two repositories, each of which now and then merges another one's head or a commit further back.
func crossing(t *testing.T, r *rand.Rand, steps int) *held {
	t.Helper()
	h := fresh(t)
	branches := []api.Name{nameOf(0, "a", 0), nameOf(0, "b", 0), nameOf(1, "a", 0), nameOf(1, "ab", 0)}
	for range steps {
		i := r.Intn(len(branches))
		head := branches[i]
		n := head
		n.Number++
		var other api.Name
		if len(h.order) > 0 {
			other = h.order[len(h.order)-1-r.Intn(min(len(h.order), 8))]
		}
		past := h.history.plain.pasts
		switch apart := head.Number > 0 && other.Number > 0 && !past[head][other] && !past[other][head]; {
		case head.Number == 0 && other.Number > 0 && r.Intn(4) > 0:
			h.commit(n, someOps(r), other)
		case head.Number == 0:
			h.commit(n, someOps(r))
		case apart && r.Intn(3) > 0:
			h.merge(n, head, other)
		default:
			h.commit(n, someOps(r), head)
		}
		if _, is := h.states[n]; is {
			branches[i] = n
		}
	}
	return h
}

func someOps(r *rand.Rand) []api.Op {
	var l []api.Op
	for range r.Intn(4) {
		text := string(rune('p' + r.Intn(4)))
		o := []api.Op{
			add(1 << r.Intn(40)), insert(text), remove(text), remove(text), write(text), push(text), pop(), pop(), appendOf(text),
		}[r.Intn(9)]
		o.Key += []string{"", "2"}[r.Intn(2)]
		switch r.Intn(4) {
		case 0:
			o.Path = []string{"m"}
		case 1:
			o.Path = []string{"m", "n"}
		}
		l = append(l, o)
	}
	return l
}

func some(r *rand.Rand, l []api.Name, n int) []api.Name {
	var some []api.Name
	for range n {
		some = append(some, l[r.Intn(len(l))])
	}
	return some
}

func TestHistoriesAtRandom(t *testing.T) {
	for seed := range int64(60) {
		r := rand.New(rand.NewSource(seed))
		h := crossing(t, r, 40)
		if seed%2 == 0 {
			h = h.again()
		}
		for range 60 {
			l := some(r, h.order, r.Intn(6))
			switch r.Intn(16) {
			case 0:
				h.wantForget()
			case 1:
				h.wantDepth(l...)
			case 2, 3, 4, 5, 6:
				h.wantState(l...)
			case 7, 8, 9:
				pair := some(r, h.order, 2)
				h.wantMerge(pair[0], pair[1])
			default:
				pair := some(r, h.order, 2)
				h.wantOf(pair[0], pair[1])
			}
		}
	}
}

// Two bases that were asked other things ahead, in another order, answer the same.
func TestNothingHangsOnWhatWasAsked(t *testing.T) {
	for seed := range int64(20) {
		r := rand.New(rand.NewSource(seed))
		h := crossing(t, r, 30)
		var lists [][]api.Name
		for range 20 {
			lists = append(lists, some(r, h.order, 1+r.Intn(5)))
		}
		var states []tree.Tree
		for _, l := range lists {
			s, _ := h.wantState(l...)
			states = append(states, s)
		}
		for range 3 {
			other := h.again()
			for _, i := range r.Perm(len(lists)) {
				l := slices.Clone(lists[i])
				r.Shuffle(len(l), func(i, j int) { l[i], l[j] = l[j], l[i] })
				if s, _ := other.wantState(l...); !s.Alike(states[i]) {
					t.Error("State", l, "hangs on what was asked ahead")
				}
				other.wantDepth(l...)
			}
		}
	}
}
