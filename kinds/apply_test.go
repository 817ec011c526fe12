package kinds_test

import (
	"math"
	"slices"
	"strings"
	"testing"

	"estuary/api"
	"estuary/kinds"
)

// do is an operation on a thing at the root.
func do(d api.Do, number int64, text string) api.Op {
	return api.Op{Kind: kinds.Of(d), Key: "k", Do: d, Number: number, Text: text}
}

// applied is what Apply makes of a value, where it may.
func applied(t *testing.T, v api.Value, s api.Stamp, o api.Op) api.Value {
	t.Helper()
	got, e := kinds.Apply(v, s, o)
	if e != api.OK || !kinds.Value(got) {
		t.Fatalf("Apply(%v, %v, %v): %v, %v", v, s, o, got, e)
	}
	return got
}

func wantSame(t *testing.T, what string, got, want api.Value) {
	t.Helper()
	if !kinds.Same(got, want) {
		t.Fatalf("%s: %v, not %v", what, got, want)
	}
}

// P9.4, the chapter's examples.
func TestApplyExamples(t *testing.T) {
	set, _ := kinds.Empty(api.Set)
	one := applied(t, set, at(1), do(api.DoInsert, 0, "x"))
	wantSame(t, "insert x", one, of(api.Set, "x"))
	two := applied(t, one, at(2), do(api.DoInsert, 0, "x"))
	wantSame(t, "insert x again", two, of(api.Set, "x", "x"))
	wantSame(t, "remove x", applied(t, two, at(3), do(api.DoRemove, 0, "x")), set)
	second := []api.Element{{Stamp: at(2), Text: "b"}}
	wantSame(t, "pop", applied(t, of(api.Queue, "a", "b"), at(3), do(api.DoPop, 0, "")), api.Value{Kind: api.Queue, Elements: second})
	wantSame(t, "write", applied(t, of(api.Register, "a"), at(2), do(api.DoWrite, 0, "b")), api.Value{Kind: api.Register, Elements: second})
}

// P9.4: sums go round.
func TestApplyAdd(t *testing.T) {
	numbers := []int64{0, 1, -1, 3, math.MaxInt64, math.MaxInt64 - 1, math.MinInt64, math.MinInt64 + 1, 1 << 62, -1 << 62}
	for _, n := range numbers {
		for _, by := range numbers {
			want := number(int64(uint64(n) + uint64(by)))
			for _, s := range rising() {
				wantSame(t, "add", applied(t, number(n), s, do(api.DoAdd, by, "")), want)
			}
		}
	}
	wantSame(t, "past the greatest", applied(t, number(math.MaxInt64), at(1), do(api.DoAdd, 1, "")), number(math.MinInt64))
	wantSame(t, "past the least", applied(t, number(math.MinInt64), at(1), do(api.DoAdd, -1, "")), number(math.MaxInt64))
}

// P9.4: of no elements, of one, of several; with texts that are there and that are not.
func TestApplyEdges(t *testing.T) {
	none, _ := kinds.Empty(api.Queue)
	wantSame(t, "pop of none", applied(t, none, at(1), do(api.DoPop, 0, "")), none)
	wantSame(t, "pop of the last one", applied(t, of(api.Queue, "x"), at(2), do(api.DoPop, 0, "")), none)
	set := of(api.Set, "x", "", "x", "\x00", "xx")
	wantSame(t, "remove of what is not there", applied(t, set, at(9), do(api.DoRemove, 0, "y")), set)
	left := api.Value{Kind: api.Set, Elements: []api.Element{set.Elements[1], set.Elements[3], set.Elements[4]}}
	wantSame(t, "remove of what stands twice", applied(t, set, at(9), do(api.DoRemove, 0, "x")), left)
	left.Elements = []api.Element{set.Elements[0], set.Elements[2], set.Elements[3], set.Elements[4]}
	wantSame(t, "remove of no bytes", applied(t, set, at(9), do(api.DoRemove, 0, "")), left)
	wantSame(t, "remove from none", applied(t, api.Value{Kind: api.Set}, at(1), do(api.DoRemove, 0, "x")), api.Value{Kind: api.Set})
	written := api.Value{Kind: api.Register, Elements: []api.Element{{Stamp: at(9), Text: "x"}}}
	for _, v := range []api.Value{{Kind: api.Register}, of(api.Register, "x"), of(api.Register, "a", "x", "b")} {
		wantSame(t, "write", applied(t, v, at(9), do(api.DoWrite, 0, "x")), written)
	}
	long := strings.Repeat("\xff", api.MaxText)
	for _, r := range rows() {
		if !r.brings {
			continue
		}
		want := api.Value{Kind: r.kind, Elements: []api.Element{{Stamp: at(1), Text: long}}}
		wantSame(t, r.word, applied(t, api.Value{Kind: r.kind}, at(1), do(r.do, 0, long)), want)
	}
}

// tried is operations of a kind, with texts that are there, that are not, and that have no bytes.
func tried(k api.Kind) []api.Op {
	var l []api.Op
	for _, r := range rows() {
		switch {
		case r.kind != k:
		case r.number:
			l = append(l, do(r.do, 0, ""), do(r.do, 1, ""), do(r.do, math.MaxInt64, ""), do(r.do, math.MinInt64, ""))
		case r.text:
			l = append(l, do(r.do, 0, ""), do(r.do, 0, "x"), do(r.do, 0, "y"))
		default:
			l = append(l, do(r.do, 0, ""))
		}
	}
	return l
}

// plainly is what an operation makes of a plain list of elements.
func plainly(l []api.Element, s api.Stamp, o api.Op) []api.Element {
	var made []api.Element
	for i, x := range l {
		gone := o.Do == api.DoWrite || o.Do == api.DoPop && i == 0 || o.Do == api.DoRemove && x.Text == o.Text
		if !gone {
			made = append(made, x)
		}
	}
	if o.Do == api.DoInsert || o.Do == api.DoWrite || o.Do == api.DoPush || o.Do == api.DoAppend {
		made = append(made, api.Element{Stamp: s, Text: o.Text})
	}
	return made
}

// P9.2, P9.4, P9.5: all rows of up to four operations of each kind, one behind the other, are as a plain list says.
func TestApplyRows(t *testing.T) {
	stamps := rising()
	for _, k := range plain() {
		var all func(v api.Value, l []api.Element, sum int64, step int)
		all = func(v api.Value, l []api.Element, sum int64, step int) {
			wantSame(t, "behind some steps", v, api.Value{Kind: k, Number: sum, Elements: l})
			if step == 4 {
				return
			}
			for _, o := range tried(k) {
				s := stamps[3*step+1]
				if e := kinds.Check(o); e != api.OK {
					t.Fatalf("Check(%v): %v", o, e)
				}
				more := plainly(l, s, o)
				got := applied(t, v, s, o)
				if brought := slices.ContainsFunc(got.Elements, func(x api.Element) bool { return x.Stamp == s }); brought != kinds.Stamped(o) {
					t.Fatalf("Stamped(%v): %v, but an element is brought: %v", o, !brought, brought)
				}
				all(got, more, sum+o.Number, step+1)
			}
		}
		v, _ := kinds.Empty(k)
		all(v, nil, 0, 0)
	}
}

// wantApplyError asks for an error, with no value beside it.
func wantApplyError(t *testing.T, v api.Value, s api.Stamp, o api.Op, want api.Errno) {
	t.Helper()
	if got, e := kinds.Apply(v, s, o); e != want || !kinds.Same(got, api.Value{}) {
		t.Errorf("Apply(%v, %v, %.200v): %v, %v, not %v", v, s, o, got, e, want)
	}
}

// P9.4: a stamp must be behind those of all elements, whatever the operation does.
func TestApplyBehind(t *testing.T) {
	stamps := rising()
	for _, r := range rows() {
		for i, s := range stamps {
			for j, last := range stamps {
				v := api.Value{Kind: r.kind, Elements: []api.Element{{Stamp: last, Text: "x"}}}
				if r.kind == api.Counter {
					v.Elements = nil
				} else if j > 0 {
					v.Elements = []api.Element{{Stamp: stamps[0], Text: "y"}, {Stamp: last, Text: "x"}}
				}
				if i > j || r.kind == api.Counter {
					applied(t, v, s, opOf(r))
				} else {
					wantApplyError(t, v, s, opOf(r), api.ErrArg)
				}
			}
		}
		for _, s := range wrongStamps() {
			wantApplyError(t, api.Value{Kind: r.kind}, s, opOf(r), api.ErrArg)
		}
	}
}

// P9.4: operations that may not be, of the value's kind and of another one.
func TestApplyWrongOps(t *testing.T) {
	for _, k := range plain() {
		v, _ := kinds.Empty(k)
		for _, r := range rows() {
			for _, spoil := range []func(*api.Op){
				func(o *api.Op) { o.Key = "a/b" },
				func(o *api.Op) { o.Path = []string{""} },
				func(o *api.Op) { o.Path = slices.Repeat([]string{"a"}, api.MaxDepth+1) },
				func(o *api.Op) { o.Kind = api.Map },
				func(o *api.Op) { o.Kind = 0 },
				func(o *api.Op) { o.Do = 0 },
				func(o *api.Op) { o.Do = 8 },
				func(o *api.Op) { o.Text = strings.Repeat("x", api.MaxText+1) },
				func(o *api.Op) { o.Number, o.Text = 1, "x" },
			} {
				o := opOf(r)
				spoil(&o)
				wantApplyError(t, v, at(1), o, api.ErrArg)
			}
		}
	}
}

// P9.4: ErrType where all else may be, and ErrArg ahead of it.
func TestApplyTypes(t *testing.T) {
	for _, k := range plain() {
		v, _ := kinds.Empty(k)
		for _, r := range rows() {
			for _, named := range plain() {
				o := opOf(r)
				o.Kind = named
				if named == r.kind && named == k {
					applied(t, v, at(1), o)
					continue
				}
				wantApplyError(t, v, at(1), o, api.ErrType)
				wantApplyError(t, v, api.Stamp{}, o, api.ErrArg)
				wantApplyError(t, api.Value{Kind: api.Map}, at(1), o, api.ErrArg)
				if k != api.Counter {
					wantApplyError(t, of(k, "x", "y"), at(3), o, api.ErrType)
					wantApplyError(t, of(k, "x", "y"), at(2), o, api.ErrArg)
					wantApplyError(t, api.Value{Kind: k, Number: 1}, at(1), o, api.ErrArg)
				} else {
					wantApplyError(t, of(k, "x"), at(9), o, api.ErrArg)
				}
				o.Key = ""
				wantApplyError(t, v, at(1), o, api.ErrArg)
			}
		}
	}
}
