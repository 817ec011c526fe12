package keys_test

import (
	"slices"
	"testing"

	"estuary/api"
	"estuary/keys"
)

// told is what Fronts tells at a step.
type told struct {
	front []string
	key   string
}

// wantFronts goes over all, and asks for the keys of l with those ahead of each.
func wantFronts(t *testing.T, what string, fronts func(func([]string, string) bool), l []string) {
	t.Helper()
	n := 0
	for front, key := range fronts {
		if n >= len(l) || key != l[n] || !slices.Equal(front, l[:n]) {
			t.Fatalf("%s: step %d tells %q, %q, of %q", what, n, front, key, l)
		}
		n++
	}
	if n != len(l) {
		t.Errorf("%s: %d steps, of %q", what, n, l)
	}
}

// lists is lists of texts of which some are no paths.
func lists() [][]string {
	return [][]string{nil, {}, {"a"}, {"a", "b"}, {"a", "a", "a"}, {""}, {"", "", ""}, {"/", "\xff", "\x00", "a/b"}, {"a", "b", "c", "d", "e", "f"}, slices.Repeat([]string{"x", "y"}, 50)}
}

// P5.3
func TestFronts(t *testing.T) {
	var got []told
	for front, key := range keys.Fronts([]string{"a", "b"}) {
		got = append(got, told{front, key})
	}
	if len(got) != 2 || len(got[0].front) != 0 || got[0].key != "a" || !slices.Equal(got[1].front, []string{"a"}) || got[1].key != "b" {
		t.Errorf("Fronts(a b): %q", got)
	}
	for _, l := range lists() {
		fronts := keys.Fronts(l)
		for range 3 {
			wantFronts(t, "again", fronts, l)
		}
	}
}

// P5.3: it may be left at any step, and gone over again, also while it is being gone over.
func TestFrontsLeft(t *testing.T) {
	for _, l := range lists() {
		fronts := keys.Fronts(l)
		for stop := range l {
			n := 0
			for range fronts {
				if n == stop {
					break
				}
				n++
			}
			if n != stop {
				t.Errorf("left at step %d of %q: %d", stop, l, n)
			}
			wantFronts(t, "after it was left", fronts, l)
		}
		n := 0
		for front, key := range fronts {
			wantFronts(t, "within itself", fronts, l)
			if key != l[n] || !slices.Equal(front, l[:n]) {
				t.Errorf("step %d of %q tells %q, %q", n, l, front, key)
			}
			n++
		}
	}
}

// P5.3: the list is told as it is when Fronts is called, whatever its caller does to it then.
func TestFrontsKeepsNothing(t *testing.T) {
	l := append(make([]string, 0, 8), "a", "b", "c")
	fronts := keys.Fronts(l)
	short := keys.Fronts(l[:2])
	l[0] = "changed"
	wantFronts(t, "changed ahead", fronts, []string{"a", "b", "c"})
	n := 0
	for front, key := range fronts {
		for i := range l[:cap(l)] {
			l[:cap(l)][i] += "more"
		}
		if want := []string{"a", "b", "c"}; key != want[n] || !slices.Equal(front, want[:n]) {
			t.Errorf("changed while gone over: step %d tells %q, %q", n, front, key)
		}
		n++
	}
	wantFronts(t, "changed afterwards", fronts, []string{"a", "b", "c"})
	wantFronts(t, "of its beginning", short, []string{"a", "b"})
}

// P5.3: paths that were told are the caller's own, spare room included.
func TestFrontsTold(t *testing.T) {
	want := []string{"a", "b", "c", "d", "e", "f", "g"}
	l := append(make([]string, 0, 16), want...)
	fronts := keys.Fronts(l)
	var kept [][]string
	for range 3 {
		n := 0
		for front, key := range fronts {
			if key != want[n] || !slices.Equal(front, want[:n]) {
				t.Fatalf("step %d tells %q, %q", n, front, key)
			}
			spoil(front)
			kept = append(kept, front)
			n++
		}
	}
	for i, a := range kept {
		for _, s := range a {
			if len(s) != 1+len(" spoilt") {
				t.Errorf("the path of step %d is another one's, too: %q", i, a)
			}
		}
	}
	if !slices.Equal(l[:cap(l)], append(want, make([]string, 9)...)) {
		t.Errorf("the list is changed: %q", l[:cap(l)])
	}
}

// spoil changes texts and the spare room behind them.
func spoil(l []string) {
	l = l[:cap(l)]
	for i := range l {
		l[i] += " spoilt"
	}
}

// What is handed in to the other calls is not changed and not kept, and what they answer is new (DOC.md, the rules).
func TestApart(t *testing.T) {
	want := []string{"a", "b", "c"}
	roomy := func() []string { return append(make([]string, 0, 9), want...) }
	l := roomy()
	text, _ := keys.Join(l)
	keys.Path(l)
	keys.CmpPath(l, l[:2])
	keys.Place(api.Place{Path: l, Kind: api.Set, Key: "k"})
	keys.CmpPlace(api.Place{Path: l}, api.Place{Path: l[:2]})
	if !slices.Equal(l[:cap(l)], append(roomy(), make([]string, 6)...)) {
		t.Errorf("changed: %q", l[:cap(l)])
	}
	spoil(l)
	if text != "/a/b/c" {
		t.Errorf("Join kept the list: %q", text)
	}
	for range 3 {
		got, _ := keys.Split("/a/b/c")
		if !slices.Equal(got, want) {
			t.Errorf("Split: %q", got)
		}
		spoil(got)
	}
}
