package kinds_test

import (
	"math"
	"slices"
	"strings"
	"testing"

	"estuary/api"
	"estuary/kinds"
)

// at is a stamp of a generation.
func at(gen int64) api.Stamp { return stampOf(gen, 0, "a", 1, 0) }

func stampOf(gen int64, repo int, label string, number int64, index int) api.Stamp {
	return api.Stamp{Gen: gen, Name: api.Name{Branch: api.Branch{Repo: repo, Label: label}, Number: number}, Index: index}
}

// rising is stamps that differ from their neighbours in one field more or less, in order.
func rising() []api.Stamp {
	return []api.Stamp{
		stampOf(1, 0, "a", 1, 0), stampOf(1, 0, "a", 1, 1), stampOf(1, 0, "a", 1, api.MaxOps-1), stampOf(1, 0, "a", 2, 0), stampOf(1, 0, "a", api.MaxNumber, 0),
		stampOf(1, 0, "aa", 1, 0), stampOf(1, 0, "b", 1, 0), stampOf(1, 1, "a", 1, 0), stampOf(1, api.MaxRepos-1, "a", 1, 0),
		stampOf(2, 0, "a", 1, 0), stampOf(3, 0, "a", 1, 0), stampOf(256, 0, "a", 1, 0), stampOf(api.MaxNumber, api.MaxRepos-1, "zzzzzzzzzzzz", api.MaxNumber, api.MaxOps-1),
	}
}

// wrongStamps is stamps that may not be.
func wrongStamps() []api.Stamp {
	return []api.Stamp{
		{}, stampOf(0, 0, "a", 1, 0), stampOf(-1, 0, "a", 1, 0), stampOf(api.MaxNumber+1, 0, "a", 1, 0), stampOf(math.MinInt64, 0, "a", 1, 0), stampOf(math.MaxInt64, 0, "a", 1, 0),
		stampOf(9, -1, "a", 1, 0), stampOf(9, api.MaxRepos, "a", 1, 0), stampOf(9, 0, "", 1, 0), stampOf(9, 0, "A", 1, 0), stampOf(9, 0, "aaaaaaaaaaaaa", 1, 0),
		stampOf(9, 0, "a", 0, 0), stampOf(9, 0, "a", -1, 0), stampOf(9, 0, "a", api.MaxNumber+1, 0), stampOf(9, 0, "a", 1, -1), stampOf(9, 0, "a", 1, api.MaxOps),
	}
}

// of is a value with some texts, at the generations 1, 2, ..
func of(k api.Kind, texts ...string) api.Value {
	v := api.Value{Kind: k}
	for i, text := range texts {
		v.Elements = append(v.Elements, api.Element{Stamp: at(int64(i + 1)), Text: text})
	}
	return v
}

func number(n int64) api.Value { return api.Value{Kind: api.Counter, Number: n} }

// wantValue asks whether a value may be, of all calls that it is handed in to.
func wantValue(t *testing.T, v api.Value, want bool) {
	t.Helper()
	if kinds.Value(v) != want {
		t.Fatalf("Value(%d, %d, %d elements): %v", v.Kind, v.Number, len(v.Elements), !want)
	}
	wantErr := api.OK
	if !want {
		wantErr = api.ErrArg
	}
	n, texts, e := kinds.Show(v)
	if e != wantErr || !want && (n != 0 || texts != nil) {
		t.Errorf("Show: %d, %q, %v", n, texts, e)
	}
	right := api.Value{Kind: v.Kind}
	for _, three := range [][3]api.Value{{v, right, right}, {right, v, right}, {right, right, v}} {
		got, e := kinds.Three(three[0], three[1], three[2])
		if e != wantErr || !want && !kinds.Same(got, api.Value{}) {
			t.Errorf("Three: %v, %v", got, e)
		}
	}
	if want {
		return
	}
	for _, r := range rows() {
		if got, e := kinds.Apply(v, at(api.MaxNumber), opOf(r)); e != api.ErrArg || !kinds.Same(got, api.Value{}) {
			t.Errorf("Apply of %s: %v, %v", r.word, got, e)
		}
	}
}

// P9.3
func TestEmpty(t *testing.T) {
	for _, k := range plain() {
		v, e := kinds.Empty(k)
		if v.Kind != k || v.Number != 0 || len(v.Elements) != 0 || e != api.OK || !kinds.Value(v) {
			t.Errorf("Empty(%d): %v, %v", k, v, e)
		}
		if n, texts, e := kinds.Show(v); n != 0 || len(texts) != 0 || e != api.OK {
			t.Errorf("an empty one shows %d, %q, %v", n, texts, e)
		}
	}
	for _, n := range append(none(), int(api.Map), 7) {
		if v, e := kinds.Empty(api.Kind(n)); !kinds.Same(v, api.Value{}) || e != api.ErrArg {
			t.Errorf("Empty(%d): %v, %v", n, v, e)
		}
	}
}

// P9.3: kinds and numbers of values with and without elements.
func TestValue(t *testing.T) {
	for _, n := range append(none(), 1, 2, 3, 4, 5, 6, 7) {
		k := api.Kind(n)
		for _, number := range []int64{0, 1, -1, math.MaxInt64, math.MinInt64} {
			for _, l := range [][]api.Element{nil, {}, {{Stamp: at(1)}}, {{Stamp: at(1), Text: "x"}, {Stamp: at(2), Text: "x"}}} {
				want := k == api.Counter && len(l) == 0 || k > api.Counter && k < api.Map && number == 0
				wantValue(t, api.Value{Kind: k, Number: number, Elements: l}, want)
			}
		}
	}
}

// P9.3: elements whose stamps rise or do not, and texts up to their bound and one past it.
func TestValueElements(t *testing.T) {
	for _, k := range plain()[1:] {
		for i, s := range rising() {
			for j, u := range rising() {
				wantValue(t, api.Value{Kind: k, Elements: []api.Element{{Stamp: s, Text: "x"}, {Stamp: u, Text: "y"}}}, i < j)
			}
		}
		for at := range 3 {
			for _, s := range wrongStamps() {
				v := of(k, "x", "x", "x")
				v.Elements[at].Stamp = s
				wantValue(t, v, false)
				wantValue(t, api.Value{Kind: k, Elements: v.Elements[at : at+1]}, false)
			}
			for n := api.MaxText - 1; n < api.MaxText+3; n++ {
				v := of(k, "x", "x", "x")
				v.Elements[at].Text = strings.Repeat("\xff", n)
				wantValue(t, v, n <= api.MaxText)
			}
			v := of(k, "x", "x", "x")
			v.Elements[at].Stamp = v.Elements[(at+1)%3].Stamp // twice
			wantValue(t, v, false)
		}
	}
}

// P9.3
func TestShow(t *testing.T) {
	texts := []string{"b", "a", "b", "", "\xff", "ab", "", "é", "a", "\x00"}
	once := []string{"", "\x00", "a", "ab", "b", "é", "\xff"}
	for _, k := range plain()[1:] {
		v := of(k, texts...)
		want := texts
		if k == api.Set {
			want = once
		}
		if n, got, e := kinds.Show(v); n != 0 || !slices.Equal(got, want) || e != api.OK {
			t.Errorf("Show of %d: %d, %q, %v", k, n, got, e)
		}
	}
	for _, n := range []int64{0, 1, -1, math.MaxInt64, math.MinInt64} {
		for _, l := range [][]api.Element{nil, {}} {
			if got, texts, e := kinds.Show(api.Value{Kind: api.Counter, Number: n, Elements: l}); got != n || len(texts) != 0 || e != api.OK {
				t.Errorf("Show of %d: %d, %q, %v", n, got, texts, e)
			}
		}
	}
	if _, got, e := kinds.Show(of(api.Set, "b", "a", "b")); !slices.Equal(got, []string{"a", "b"}) || e != api.OK {
		t.Errorf("Show of a Set of b, a, b: %q, %v", got, e)
	}
	if _, got, e := kinds.Show(of(api.Journal, "b", "a", "b")); !slices.Equal(got, []string{"b", "a", "b"}) || e != api.OK {
		t.Errorf("Show of a Journal of b, a, b: %q, %v", got, e)
	}
}

// P9.3: Same holds any values against each other, those that may not be, too.
func TestSame(t *testing.T) {
	unlike := []api.Value{
		{}, {Kind: api.Counter}, {Kind: api.Set}, {Kind: api.Map}, {Kind: -1}, number(1), number(-1), {Number: 1}, {Kind: api.Set, Number: 1},
		of(api.Counter, "x"), of(api.Set, "x"), of(api.Set, "y"), of(api.Set, ""), of(api.Journal, "x"), of(api.Set, "x", "y"), of(api.Set, "y", "x"), of(api.Set, "x", "x"),
		{Kind: api.Set, Number: 1, Elements: of(api.Set, "x").Elements}, {Kind: api.Set, Elements: []api.Element{{}}},
	}
	for _, s := range append(rising()[1:], wrongStamps()...) {
		unlike = append(unlike, api.Value{Kind: api.Set, Elements: []api.Element{{Stamp: s, Text: "x"}}})
	}
	for i, a := range unlike {
		for j, b := range unlike {
			b.Elements = slices.Clone(b.Elements)
			if got := kinds.Same(a, b); got != (i == j) {
				t.Errorf("Same(%v, %v): %v", a, b, got)
			}
		}
	}
	for _, k := range plain() {
		none, empty := api.Value{Kind: k}, api.Value{Kind: k, Elements: []api.Element{}}
		if !kinds.Same(none, empty) || !kinds.Same(empty, none) {
			t.Errorf("of %d: no list and an empty one are unlike", k)
		}
	}
}
