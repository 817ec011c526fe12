package journal_test

import (
	"math/rand"
	"slices"
	"testing"

	"estuary/api"
	"estuary/journal"
	"estuary/kinds"
)

// together is what Three makes of three journals.
func together(t *testing.T, base, a, b book) book {
	t.Helper()
	m, e := journal.Three(base, a, b)
	if e != api.OK {
		t.Fatalf("Three: %v", e)
	}
	return m
}

// wantThree holds Three, either side first, against layer 9's and against a plain list.
func wantThree(t *testing.T, what string, base, a, b book, want []api.Element) {
	t.Helper()
	value := func(m book) api.Value { return api.Value{Kind: api.Journal, Elements: elements(t, m)} }
	v, e := kinds.Three(value(base), value(a), value(b))
	if e != api.OK || !slices.Equal(v.Elements, byStamps(want)) {
		t.Fatalf("%s: layer 9: %v, %v, not %v", what, v.Elements, e, want)
	}
	wantJournal(t, what, together(t, base, a, b), want)
	wantJournal(t, what+", the other one first", together(t, base, b, a), want)
}

// wantGrown holds Three of two that both have grown from a base against all entries of both: they are parts of it, and it has no others.
func wantGrown(t *testing.T, what string, base, a, b book) {
	t.Helper()
	wantPart(t, what+": the base in a", base, a, true)
	wantPart(t, what+": the base in b", base, b, true)
	all := elements(t, a)
	for _, x := range elements(t, b) {
		if !slices.Contains(all, x) {
			all = append(all, x)
		}
	}
	wantThree(t, what, base, a, b, all)
	for _, m := range []book{together(t, base, a, b), together(t, base, b, a)} {
		wantPart(t, what+": the base", base, m, true)
		wantPart(t, what+": a", a, m, true)
		wantPart(t, what+": b", b, m, true)
	}
}

// picked is some of a list's entries, a bit each.
func picked(l []api.Element, bits int) []api.Element {
	var some []api.Element
	for i, x := range l {
		if bits>>i&1 == 1 {
			some = append(some, x)
		}
	}
	return some
}

// P14.3, P14.4: all threes of journals out of four entries, made apart from each other.
func TestThreeAll(t *testing.T) {
	l := []api.Element{entry(2, "x"), entry(1, ""), entry(4, "x"), entry(3, "y")}
	for base := range 16 {
		for a := range 16 {
			for b := range 16 {
				inBase, inA, inB := of(t, picked(l, base)...), of(t, picked(l, a)...), of(t, picked(l, b)...)
				wantThree(t, "Three", inBase, inA, inB, picked(l, a&b|(a|b)&^base))
				if base&^(a&b) == 0 {
					wantGrown(t, "both grown", inBase, inA, inB)
				}
			}
		}
	}
}

// P14.3: of a stamp that has two texts the elements' rule says a's, where both sides have it.
func TestThreeOneStamp(t *testing.T) {
	a, b := of(t, entry(1, "x")), of(t, entry(1, "y"))
	for _, base := range []book{{}, of(t, entry(1, "z")), of(t, entry(2, "z"))} {
		wantJournal(t, "x and y", together(t, base, a, b), []api.Element{entry(1, "x")})
		wantJournal(t, "y and x", together(t, base, b, a), []api.Element{entry(1, "y")})
	}
	base := of(t, entry(1, "z"))
	wantJournal(t, "just a has it, and base otherwise", together(t, base, a, book{}), nil)
	wantJournal(t, "just b has it, and base otherwise", together(t, base, book{}, b), nil)
}

// P14.4: two that have grown from one base, by each text, of one side and of both.
func TestGrown(t *testing.T) {
	for n := range some() {
		l := byStamps(some()[n:])
		base := of(t, l...)
		for _, text := range texts() {
			x := api.Element{Stamp: stampOf(10, 0, "a", 1, 0), Text: text}
			y := api.Element{Stamp: stampOf(10, 1, "a", 1, 0), Text: text}
			a, b := appended(t, base, x), appended(t, base, y)
			wantGrown(t, "one side", base, a, base)
			wantGrown(t, "both sides", base, a, b)
			wantGrown(t, "one further than the other one", base, appended(t, a, y), b)
			wantGrown(t, "both the same, apart", base, a, appended(t, base, x))
		}
		wantJournal(t, "the elder journal", base, l)
	}
	wantGrown(t, "out of none", book{}, of(t, some()[:5]...), of(t, some()[3:]...))
}

// P14.3: what the base has and one side has not is gone, by the elements' rule, though no journal loses an entry.
func TestThreeLost(t *testing.T) {
	base := of(t, entry(1, "x"), entry(2, "y"))
	less := of(t, entry(2, "y"))
	wantThree(t, "lost by one", base, less, base, []api.Element{entry(2, "y")})
	wantThree(t, "lost by one, the other one grown", base, less, appended(t, base, entry(3, "z")), []api.Element{entry(2, "y"), entry(3, "z")})
	wantThree(t, "lost by both", base, less, of(t, entry(1, "x")), nil)
}

// P14.3: where two of the three are one, the third one is answered as it is.
func TestThreeSame(t *testing.T) {
	m, n := of(t, some()...), of(t, some()[3:9]...)
	for i, l := range [][4]book{{m, m, m, m}, {m, m, n, n}, {m, n, m, n}, {m, n, n, n}, {{}, {}, m, m}, {{}, m, {}, m}, {m, {}, {}, {}}, {}} {
		if got := together(t, l[0], l[1], l[2]); !got.Same(l[3]) {
			t.Errorf("%d: another map", i)
		}
	}
}

// version is a journal, with the appends that its history has.
type version struct {
	m    book
	seen []api.Element
	gen  int64
}

// appended is a version behind one more append.
func (v version) appended(t *testing.T, repo int, text string) version {
	x := api.Element{Stamp: stampOf(v.gen+1, repo, "a", 1, 0), Text: text}
	return version{appended(t, v.m, x), append(slices.Clone(v.seen), x), v.gen + 1}
}

// merged is two versions run together over one that both are behind.
func merged(t *testing.T, base, a, b version) version {
	seen := slices.Clone(a.seen)
	for _, x := range b.seen {
		if !slices.Contains(seen, x) {
			seen = append(seen, x)
		}
	}
	wantGrown(t, "merged", base.m, a.m, b.m)
	return version{together(t, base.m, a.m, b.m), seen, max(a.gen, b.gen) + 1}
}

// P14.3, P14.4: sides that append and merge, one base behind the other: all appends of the history are there; elder journals stay as they were, and are parts of what came of them.
func TestThreeHistories(t *testing.T) {
	chance := rand.New(rand.NewSource(3))
	for range 40 {
		var kept []version
		var base version
		for range 6 {
			side := [3]version{base, base, base}
			for range chance.Intn(12) {
				at := chance.Intn(len(side))
				side[at] = side[at].appended(t, at, texts()[chance.Intn(len(texts()))])
				kept = append(kept, side[at])
			}
			two := merged(t, base, side[0], side[1])
			base = merged(t, base, two, side[2])
			kept = append(kept, two, base)
		}
		for _, v := range kept {
			wantJournal(t, "an elder journal", v.m, v.seen)
			wantPart(t, "an elder journal", v.m, base.m, true)
		}
	}
}
