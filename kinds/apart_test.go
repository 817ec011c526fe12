package kinds_test

import (
	"slices"
	"testing"

	"estuary/api"
	"estuary/kinds"
)

// roomy is a value whose list has spare room, which tells when it is written to.
func roomy(k api.Kind, texts ...string) api.Value {
	v := of(k, texts...)
	l := make([]api.Element, 0, len(texts)+4)
	l = append(l, v.Elements...)
	for i := range l[len(l):cap(l)] {
		l[len(l):cap(l)][i].Text = "spare"
	}
	v.Elements = l
	return v
}

// whole is a list with its spare room, as it is now.
func whole(v api.Value) []api.Element { return slices.Clone(v.Elements[:cap(v.Elements)]) }

// spoil changes a list and the spare room behind it.
func spoil(l []api.Element) {
	l = l[:cap(l)]
	for i := range l {
		l[i] = api.Element{Text: "spoilt"}
	}
}

// What is handed in is not changed, spare room included, and not kept; what is answered is new (DOC.md, the rules).
func TestApplyApart(t *testing.T) {
	for _, r := range rows() {
		if r.kind == api.Counter {
			continue
		}
		for n := range 4 {
			v := roomy(r.kind, []string{"x", "y", "x"}[:n]...)
			was := whole(v)
			o := opOf(r)
			got := applied(t, v, at(9), o)
			again := applied(t, v, at(9), o)
			kept := slices.Clone(got.Elements)
			if !slices.Equal(whole(v), was) || !slices.Equal(o.Path, []string{"a", "b"}) {
				t.Errorf("%s changed what was handed in: %v, not %v", r.word, whole(v), was)
			}
			spoil(again.Elements)
			spoil(v.Elements)
			if !slices.Equal(got.Elements, kept) {
				t.Errorf("%s: an answer shares memory with another one, or with what was handed in: %v, not %v", r.word, got.Elements, kept)
			}
			v = roomy(r.kind, []string{"x", "y", "x"}[:n]...)
			got = applied(t, v, at(9), o)
			spoil(got.Elements)
			if !slices.Equal(whole(v), was) {
				t.Errorf("%s: what was handed in shares memory with the answer", r.word)
			}
		}
	}
}

// Of the three values none is changed or kept, also where the answer is just one of them.
func TestThreeApart(t *testing.T) {
	lists := [][]string{nil, {"x"}, {"x", "y"}, {"x", "y", "z"}}
	for _, k := range plain()[1:] {
		for _, base := range lists {
			for _, a := range lists {
				for _, b := range lists {
					three := [3]api.Value{roomy(k, base...), roomy(k, a...), roomy(k, b...)}
					was := [3][]api.Element{whole(three[0]), whole(three[1]), whole(three[2])}
					got := together(t, three[0], three[1], three[2])
					again := together(t, three[0], three[1], three[2])
					kept := slices.Clone(got.Elements)
					spoil(again.Elements)
					for i, v := range three {
						if !slices.Equal(whole(v), was[i]) {
							t.Errorf("Three changed its value %d, or shares memory with it: %v, not %v", i, whole(v), was[i])
						}
						spoil(v.Elements)
					}
					if !slices.Equal(got.Elements, kept) {
						t.Errorf("Three's answer shares memory: %v, not %v", got.Elements, kept)
					}
				}
			}
		}
	}
}

// Show, Value, Same and Check change nothing, and what Show answers is new.
func TestAskedApart(t *testing.T) {
	for _, k := range plain()[1:] {
		v := roomy(k, "b", "a", "b")
		was := whole(v)
		_, got, _ := kinds.Show(v)
		_, again, _ := kinds.Show(v)
		kept := slices.Clone(got)
		again = again[:cap(again)]
		for i := range again {
			again[i] = "spoilt"
		}
		kinds.Value(v)
		kinds.Same(v, v)
		if !slices.Equal(whole(v), was) || !slices.Equal(got, kept) {
			t.Errorf("of %d: %v, %q", k, whole(v), got)
		}
	}
	path := append(make([]string, 0, 8), "a", "b")
	o := api.Op{Path: path, Kind: api.Set, Key: "k", Do: api.DoInsert}
	kinds.Check(o)
	kinds.Stamped(o)
	if !slices.Equal(path[:cap(path)], []string{"a", "b", "", "", "", "", "", ""}) {
		t.Errorf("the path is changed: %q", path[:cap(path)])
	}
}
