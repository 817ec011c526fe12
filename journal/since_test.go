package journal_test

import (
	"slices"
	"testing"

	"estuary/api"
	"estuary/journal"
	"estuary/stamp"
)

// wantSince goes over the entries behind a stamp, twice, and asks for a list of them.
func wantSince(t *testing.T, what string, m book, s api.Stamp, want []api.Element) {
	t.Helper()
	since := journal.Since(m, s)
	if since == nil {
		t.Fatalf("%s: no function", what)
	}
	for range 2 {
		var told []api.Element
		for s, text := range since {
			told = append(told, api.Element{Stamp: s, Text: text})
		}
		if !slices.Equal(told, want) {
			t.Fatalf("%s: Since(%v) tells %v, not %v", what, s, told, want)
		}
	}
}

func wantPart(t *testing.T, what string, a, b book, want bool) {
	t.Helper()
	if got := journal.Part(a, b); got != want {
		t.Fatalf("%s: a part: %v", what, got)
	}
}

// allIn tells whether all entries of one list stand in another one.
func allIn(l, in []api.Element) bool {
	return !slices.ContainsFunc(l, func(x api.Element) bool { return !slices.Contains(in, x) })
}

// P14.3: each stamp against journals that have it, or not, with entries ahead of it and behind it.
func TestSince(t *testing.T) {
	stamps := rising()
	for step := 1; step <= 4; step++ {
		for first := range 5 {
			var l []api.Element
			for i := first; i < len(stamps); i += step {
				l = append(l, api.Element{Stamp: stamps[i], Text: texts()[i]})
			}
			l = l[:len(l)-first%2] // so that stamps behind all are among those that are asked for
			m := of(t, l...)
			wantSince(t, "all", m, api.Stamp{}, l)
			for _, s := range stamps {
				ahead := 0
				for _, x := range l {
					if stamp.Cmp(x.Stamp, s) <= 0 {
						ahead++
					}
				}
				wantSince(t, "behind one", m, s, l[ahead:])
			}
		}
	}
}

// P14.3: a stamp ahead of all, one of the journal's own, one between two of them, one behind all.
func TestSinceEdges(t *testing.T) {
	l := []api.Element{entry(2, "x"), entry(4, ""), entry(6, "x")}
	m := of(t, l...)
	for gen, left := range map[int64]int{1: 3, 2: 2, 3: 2, 4: 1, 5: 1, 6: 0, 7: 0, api.MaxNumber: 0} {
		wantSince(t, "of a generation", m, at(gen), l[3-left:])
	}
	wantSince(t, "a zero stamp", m, api.Stamp{}, l)
	wantSince(t, "the greatest stamp", m, greatest(), nil)
	for _, s := range append(rising(), wrongStamps()...) {
		wantSince(t, "of none", book{}, s, nil)
	}
}

// P14.3: a zero stamp tells all, the least of stamps is not as a zero one.
func TestSinceLeast(t *testing.T) {
	least := rising()[0]
	m := of(t, api.Element{Stamp: least, Text: "x"}, entry(2, "y"))
	wantSince(t, "the least stamp", m, least, []api.Element{entry(2, "y")})
	wantSince(t, "a zero stamp", m, api.Stamp{}, []api.Element{{Stamp: least, Text: "x"}, entry(2, "y")})
}

// P14.3: nothing of stamps that may not be, but of the zero one.
func TestSinceRefused(t *testing.T) {
	m := of(t, some()...)
	for _, s := range wrongStamps()[1:] {
		wantSince(t, "a stamp that may not be", m, s, nil)
	}
	wantSince(t, "a zero stamp", m, wrongStamps()[0], byStamps(some()))
}

// P14.3: it may be left behind each turn, and begins anew the next time.
func TestSinceLeft(t *testing.T) {
	all := byStamps(some())
	m := of(t, all...)
	for skip := range all {
		s := api.Stamp{}
		if skip > 0 {
			s = all[skip-1].Stamp
		}
		since, l := journal.Since(m, s), all[skip:]
		for stop := range l {
			var told []api.Element
			since(func(s api.Stamp, text string) bool {
				told = append(told, api.Element{Stamp: s, Text: text})
				return len(told) <= stop
			})
			if !slices.Equal(told, l[:stop+1]) {
				t.Fatalf("left at turn %d: %v", stop+1, told)
			}
		}
		for s, text := range since {
			if s != l[0].Stamp || text != l[0].Text {
				t.Fatalf("after it was left it begins with %v, %q", s, text)
			}
			break
		}
	}
}

// P14.3: it may be gone through while it is being gone through, and tells what the journal was.
func TestSinceWithin(t *testing.T) {
	l := []api.Element{entry(1, "x"), entry(2, ""), entry(3, "x")}
	m := of(t, l...)
	since, n := journal.Since(m, api.Stamp{}), m
	turns := 0
	for s, text := range since {
		if s != l[turns].Stamp || text != l[turns].Text {
			t.Fatalf("turn %d: %v, %q", turns, s, text)
		}
		within := 0
		for s, text := range since {
			if s != l[within].Stamp || text != l[within].Text {
				t.Fatalf("turn %d within turn %d: %v, %q", within, turns, s, text)
			}
			within++
		}
		n = appended(t, n, entry(int64(4+turns), "new"))
		turns++
	}
	if turns != len(l) {
		t.Errorf("%d turns", turns)
	}
	wantSince(t, "what came meanwhile", n, at(3), []api.Element{entry(4, "new"), entry(5, "new"), entry(6, "new")})
}

// P14.3: all twos of journals out of four entries, made apart from each other; where texts differ under one stamp, neither is a part.
func TestPart(t *testing.T) {
	l := []api.Element{entry(2, "x"), entry(1, ""), entry(4, "x"), entry(3, "y")}
	for a := range 16 {
		for b := range 16 {
			wantPart(t, "a and b", of(t, picked(l, a)...), of(t, picked(l, b)...), a&^b == 0)
			for i, x := range l {
				if a&b>>i&1 == 1 {
					other := of(t, picked(l, a)...).Put(keyOf(t, x.Stamp), x.Text+"z")
					wantPart(t, "another text in a", other, of(t, picked(l, b)...), false)
					wantPart(t, "another text in b", of(t, picked(l, b)...), other, false)
				}
			}
		}
	}
}

// P14.3: none is a part of each one, each one is a part of itself, and of itself made anew.
func TestPartEdges(t *testing.T) {
	for n := range some() {
		l := some()[n:]
		m := of(t, l...)
		wantPart(t, "none", book{}, m, true)
		wantPart(t, "of none", m, book{}, false)
		wantPart(t, "itself", m, m, true)
		slices.Reverse(l)
		wantPart(t, "made anew", m, of(t, l...), true)
	}
	wantPart(t, "none of none", book{}, book{}, true)
	wantPart(t, "one stamp with two texts", of(t, entry(1, "x")), of(t, entry(1, "y")), false)
	wantPart(t, "one text with two stamps", of(t, entry(1, "x")), of(t, entry(2, "x")), false)
	wantPart(t, "one text with two stamps, the other way", of(t, entry(2, "x")), of(t, entry(1, "x")), false)
	wantPart(t, "as many, others", of(t, entry(1, "x"), entry(3, "x")), of(t, entry(1, "x"), entry(2, "x")), false)
}

// P14.3: stamps that differ in one field are two.
func TestPartStamps(t *testing.T) {
	for i, s := range rising() {
		for j, o := range rising() {
			a, b := of(t, api.Element{Stamp: s, Text: "x"}), of(t, api.Element{Stamp: o, Text: "x"})
			wantPart(t, "of one entry", a, b, i == j)
		}
	}
}
