package base_test

import (
	"slices"
	"testing"

	"estuary/api"
)

// roomy is a list with spare room, which is filled so that it tells when it is written to.
func roomy(l []api.Name) []api.Name {
	room := slices.Clone(l)
	for range 4 {
		room = append(room, nameOf(7, "spare", 7))
	}
	return room[:len(l)]
}

// spoil changes a list and the spare room behind it.
func spoil(l []api.Name) {
	l = l[:cap(l)]
	for i := range l {
		l[i] = nameOf(0, "o", 1)
	}
}

const twice = "o1; a1 o1; b1 o1; a2 a1 b1; b2 b1 a1; a3 a2 b2; b3 b2 a2"

func TestListsThatAreHandedInStay(t *testing.T) {
	h := made(t, twice)
	h = h.again()
	for _, s := range []string{"", "o1", "b2 a2", "b1 o1 a1", "b3 a3", "b3 o1 b3 a3"} {
		want := roomy(h.named(s))
		l := roomy(h.named(s))
		h.wantState(l...)
		h.wantDepth(l...)
		if !slices.Equal(l[:cap(l)], want[:cap(want)]) {
			t.Errorf("the list %s was changed", s)
		}
		spoil(l)
		h.wantState(h.named(s)...)
		h.wantDepth(h.named(s)...)
	}
	h.wantAll()
}

func TestListsThatAreAnsweredAreApart(t *testing.T) {
	h := made(t, twice)
	h = h.again()
	a3, b3 := name(t, "a3"), name(t, "b3")
	_, first, _ := h.bases.Of(a3, b3)
	_, second, _ := h.bases.Of(a3, b3)
	_, third, _ := h.bases.Merge(a3, b3)
	want := h.named("a2 b2")
	spoil(first.Common)
	if !slices.Equal(second.Common, want) || !slices.Equal(third.Common, want) {
		t.Error("two answers share a list:", second.Common, third.Common)
	}
	spoil(second.Common)
	spoil(third.Common)
	for _, n := range h.named("o1 a1 b1 a2 b2 a3 b3") {
		if c, e := h.graph.At(n); e != api.OK || len(c.Parents) == 2 && c.Parents[0] == name(t, "o1") {
			t.Error("the graph's commit", n, "was changed")
		}
	}
	h = h.again()
	h.wantAll()
	for _, x := range h.order {
		_, of, _ := h.bases.Of(x, b3)
		spoil(of.Common)
		h.wantOf(x, b3)
	}
}

// States are shared, and never change: what is made of one that was answered is another one.
func TestStatesThatAreAnsweredStay(t *testing.T) {
	h := made(t, twice)
	s, _ := h.wantState(h.named("a2 b2")...)
	was := shown(s)
	changed, _, e := s.DoAll(9, name(t, "a9"), add(1000), insert("x"))
	if e != api.OK || shown(changed) == was || shown(s) != was {
		t.Fatal("a state was changed")
	}
	h.wantState(h.named("a2 b2")...)
	h.wantOf(name(t, "a3"), name(t, "b3"))
}
