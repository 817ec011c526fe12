package tagset_test

import (
	"math/rand"
	"slices"
	"testing"

	"estuary/api"
	"estuary/kinds"
	"estuary/tagset"
)

// together is what Three makes of three sets.
func together(t *testing.T, base, a, b set) set {
	t.Helper()
	m, e := tagset.Three(base, a, b)
	if e != api.OK {
		t.Fatalf("Three: %v", e)
	}
	return m
}

// plainly is what layer 9 says of the elements of three sets.
func plainly(t *testing.T, base, a, b set) []api.Element {
	t.Helper()
	value := func(m set) api.Value { return api.Value{Kind: api.Set, Elements: elements(t, m)} }
	v, e := kinds.Three(value(base), value(a), value(b))
	if e != api.OK {
		t.Fatalf("layer 9: %v", e)
	}
	return v.Elements
}

// wantThree holds Three, either side first, against layer 9's.
func wantThree(t *testing.T, what string, base, a, b set) {
	t.Helper()
	want := plainly(t, base, a, b)
	for i, m := range []set{together(t, base, a, b), together(t, base, b, a)} {
		if got := elements(t, m); !slices.Equal(got, want) {
			t.Fatalf("%s, %d: %v, not %v", what, i, got, want)
		}
	}
}

// P11.4, the chapter's example.
func TestThreeExample(t *testing.T) {
	m := together(t, of(t, tag(1, "x")), of(t), of(t, tag(1, "x"), tag(2, "x")))
	wantSet(t, "Three", m, []api.Element{tag(2, "x")})
}

// picked is the set of some tags, a bit each.
func picked(t *testing.T, l []api.Element, bits int) set {
	var some []api.Element
	for i, x := range l {
		if bits>>i&1 == 1 {
			some = append(some, x)
		}
	}
	return of(t, some...)
}

// P11.4, P11.5: all threes of sets out of four tags, made apart from each other.
func TestThreeAll(t *testing.T) {
	l := []api.Element{tag(2, "x"), tag(1, "x\x00"), tag(4, "x"), tag(3, "")}
	for base := range 16 {
		for a := range 16 {
			for b := range 16 {
				stays := a&b | (a|b)&^base
				got := together(t, picked(t, l, base), picked(t, l, a), picked(t, l, b))
				if want := elements(t, picked(t, l, stays)); !slices.Equal(elements(t, got), want) {
					t.Fatalf("%b, %b, %b: %v, not %v", base, a, b, elements(t, got), want)
				}
				wantThree(t, "as layer 9", picked(t, l, base), picked(t, l, a), picked(t, l, b))
			}
		}
	}
	wantSet(t, "Three", together(t, picked(t, l, 1), picked(t, l, 3), picked(t, l, 15)), l)
}

// P11.4: one stamp with two texts is two tags, each of its own.
func TestThreeOneStamp(t *testing.T) {
	base := of(t, tag(1, "x"))
	both := inserted(t, base, tag(1, "y"))
	gone := removed(t, base, "x", 1)
	for _, m := range []set{together(t, base, both, gone), together(t, base, gone, both)} {
		wantSet(t, "x removed, y inserted", m, []api.Element{tag(1, "y")})
	}
	other := of(t, tag(1, "z"))
	for _, m := range []set{together(t, gone, other, both), together(t, gone, both, other)} {
		wantSet(t, "three texts", m, []api.Element{tag(1, "x"), tag(1, "y"), tag(1, "z")})
	}
}

// P11.5: a tag that a remove took away is gone, one that was inserted meanwhile stays, of the same text too.
func TestRemovedMeanwhile(t *testing.T) {
	for _, text := range texts() {
		base := of(t, tag(1, text), tag(2, text), tag(3, "other"))
		without := removed(t, base, text, 2)
		more := inserted(t, base, tag(4, text))
		want := []api.Element{tag(3, "other"), tag(4, text)}
		again := inserted(t, without, tag(5, text))
		wantSet(t, "a took it away", together(t, base, without, more), want)
		wantSet(t, "b took it away", together(t, base, more, without), want)
		wantSet(t, "both took it away", together(t, base, without, removed(t, base, text, 2)), want[:1])
		wantSet(t, "taken away, and inserted anew", together(t, base, again, more), append(want, tag(5, text)))
		wantSet(t, "taken away behind that", together(t, base, removed(t, more, text, 3), base), want[:1])
	}
}

// P11.4: where two of the three are one, the third one is answered as it is.
func TestThreeSame(t *testing.T) {
	m, n := of(t, some()...), of(t, some()[5:20]...)
	for i, l := range [][4]set{{m, m, m, m}, {m, m, n, n}, {m, n, m, n}, {m, n, n, n}, {{}, {}, m, m}, {{}, m, {}, m}, {m, {}, {}, {}}} {
		if got := together(t, l[0], l[1], l[2]); !got.Same(l[3]) {
			t.Errorf("%d: another map", i)
		}
	}
}

// move is an insert, or a remove of all tags of a text.
type move struct {
	tag    api.Element
	remove bool
}

// moves is some inserts and removes by chance, with stamps that no other side has.
func moves(chance *rand.Rand, gen int64, repo int) []move {
	few := []string{"", "\x00", "x", "x\x00", "x\x01", "y"}
	var l []move
	for i := range chance.Intn(8) {
		x := api.Element{Stamp: stampOf(gen, repo, "a", 1, i), Text: few[chance.Intn(len(few))]}
		l = append(l, move{x, chance.Intn(3) == 0})
	}
	return l
}

// moved is a set behind moves, and the tags that these took away.
func moved(t *testing.T, m set, l []move) (set, []api.Element) {
	var gone []api.Element
	for _, o := range l {
		if !o.remove {
			m = inserted(t, m, o.tag)
			continue
		}
		stamps := tagset.Tags(m, o.tag.Text)
		for _, s := range stamps {
			gone = append(gone, api.Element{Stamp: s, Text: o.tag.Text})
		}
		m = removed(t, m, o.tag.Text, len(stamps))
	}
	return m, gone
}

// P11.4, P11.5: two sides of moves behind a base: what they show together is all tags less all that any remove took away; the three sets are as they were.
func TestThreeHistories(t *testing.T) {
	chance := rand.New(rand.NewSource(4))
	for range 1500 {
		first, left, right := moves(chance, 1, 0), moves(chance, 2, 0), moves(chance, 2, 1)
		base, _ := moved(t, set{}, first)
		a, goneInA := moved(t, base, left)
		b, goneInB := moved(t, base, right)
		was := [3][]api.Element{elements(t, base), elements(t, a), elements(t, b)}
		want := slices.Clone(was[0])
		for _, o := range slices.Concat(left, right) {
			if !o.remove {
				want = append(want, o.tag)
			}
		}
		want = slices.DeleteFunc(want, func(x api.Element) bool { return slices.Contains(goneInA, x) || slices.Contains(goneInB, x) })
		wantSet(t, "Three", together(t, base, a, b), want)
		wantSet(t, "the other one first", together(t, base, b, a), want)
		wantThree(t, "as layer 9", base, a, b)
		for i, m := range []set{base, a, b} {
			if !slices.Equal(elements(t, m), was[i]) {
				t.Fatalf("set %d is not as it was", i)
			}
		}
	}
}
