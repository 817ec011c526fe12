package ops_test

import (
	"bytes"
	"slices"
	"strings"
	"testing"

	"estuary/api"
	"estuary/ops"
	"estuary/wire"
)

// roomy is a list with spare room, which tells when it is written to.
func roomy[T any](spare T, l ...T) []T {
	r := append(make([]T, 0, len(l)+4), l...)
	for i := range r[len(r):cap(r)] {
		r[len(r):cap(r)][i] = spare
	}
	return r
}

// whole is a list with its spare room.
func whole[T any](l []T) []T { return l[:cap(l)] }

// spoil changes a list and the spare room behind it.
func spoil[T any](l []T, by T) {
	for i := range whole(l) {
		whole(l)[i] = by
	}
}

// roomyOps is operations in a list with spare room, whose paths have some, too.
func roomyOps() []api.Op {
	var l []api.Op
	for _, r := range rows() {
		for _, path := range [][]string{{}, {"m"}, {"m", "n", "o"}} {
			l = append(l, opOf(r, roomy("spare", path...), "k", 3, "x"))
		}
	}
	return roomy(api.Op{Key: "spare"}, l...)
}

// What is told stays as it is, whatever becomes of what was handed in, and that is not changed, spare room included (DOC.md, the rules).
func TestTellApart(t *testing.T) {
	l, was := roomyOps(), roomyOps()
	form, text := listForm(l), listText(l)
	b, e := ops.BytesAll(l...)
	s, f := ops.TextAll(l...)
	places := ops.Things(l...)
	want := slices.Clone(places)
	for i, p := range want {
		want[i].Path = slices.Clone(p.Path)
	}
	ops.Same(l[0], l[1])
	for _, o := range l {
		ops.Bytes(o)
		ops.Text(o)
	}
	for i, o := range whole(l) {
		if !same(o, whole(was)[i]) || !slices.Equal(whole(o.Path), whole(whole(was)[i].Path)) {
			t.Errorf("the operation %d was changed: %v, not %v", i, o, whole(was)[i])
		}
		spoil(o.Path, "spoilt")
	}
	spoil(l, api.Op{Key: "spoilt"})
	if string(b) != form || s != text || e != api.OK || f != api.OK || !slices.EqualFunc(places, want, samePlace) {
		t.Errorf("what was told is kept: % x, %q, %v", b, s, places)
	}
}

// The places' paths are each new memory, spare room included.
func TestThingsApart(t *testing.T) {
	shared := roomy("spare", "m", "n")
	l := []api.Op{{Path: shared, Kind: api.Set, Key: "b"}, {Path: shared, Kind: api.Set, Key: "a"}, {Path: shared[:1], Kind: api.Set, Key: "c"}, {Path: shared, Kind: api.Set, Key: "a"}}
	first, second := ops.Things(l...), ops.Things(l...)
	spoil(first[1].Path, "spoilt")
	want := []api.Place{{Path: []string{"m"}, Kind: api.Set, Key: "c"}, {Kind: api.Set, Key: "a"}, {Path: []string{"m", "n"}, Kind: api.Set, Key: "b"}}
	if !samePlace(first[0], want[0]) || !samePlace(first[2], want[2]) {
		t.Errorf("one place's path is another one's: %v", first)
	}
	for _, p := range whole(first) {
		spoil(p.Path, "spoilt")
	}
	spoil(first, api.Place{Key: "spoilt"})
	want[1].Path = want[2].Path
	if !slices.EqualFunc(second, want, samePlace) || !slices.Equal(whole(shared), []string{"m", "n", "spare", "spare", "spare", "spare"}) {
		t.Errorf("places that were told are kept: %v, %q", second, whole(shared))
	}
	for _, p := range second {
		for _, q := range second {
			spoil(p.Path, "x")
			if &p.Path[0] != &q.Path[0] && q.Path[0] == "x" {
				spoil(q.Path, "m")
				t.Error("paths of one answer share memory")
			}
			spoil(p.Path, "m")
		}
	}
}

// Bytes that were handed in are not changed, nor kept; two answers share nothing.
func TestReadApart(t *testing.T) {
	l := roomyOps()
	form := []byte(listForm(l))
	b := roomy(byte(0xEE), form...)
	first, e := ops.ReadAll(b)
	second, f := ops.ReadAll(b)
	if !bytes.Equal(whole(b), append(slices.Clone(form), 0xEE, 0xEE, 0xEE, 0xEE)) || e != api.OK || f != api.OK {
		t.Fatalf("the bytes were changed: % x, %v, %v", whole(b), e, f)
	}
	spoil(b, 'z')
	for _, o := range first[1:] {
		spoil(o.Path, "spoilt")
	}
	if !same(first[0], l[0]) {
		t.Errorf("one operation's path is another one's: %v", first[0])
	}
	spoil(first, api.Op{Key: "spoilt"})
	wantOps(t, "ReadAll", second, api.OK, l)
	for _, o := range l {
		b := roomy(byte(0xEE), []byte(formOf(o))...)
		r := wire.Open(b)
		one, e := ops.Read(b)
		two, f := ops.Take(r)
		if formOf(o) != string(b) {
			t.Fatalf("the bytes were changed: % x", b)
		}
		spoil(b, 'z')
		spoil(two.Path, "spoilt")
		wantOp(t, "Read", one, e, o)
		if f != api.OK || two.Key != o.Key || two.Text != o.Text {
			t.Errorf("Take: %v, %v", two, f)
		}
	}
}

// Two answers of a text share nothing, nor do two operations of one answer.
func TestParseApart(t *testing.T) {
	l := roomyOps()
	s := listText(l)
	first, _ := ops.ParseAll(s)
	second, e := ops.ParseAll(strings.Clone(s))
	for _, o := range first[1:] {
		spoil(o.Path, "spoilt")
	}
	if !same(first[0], l[0]) {
		t.Errorf("one operation's path is another one's: %v", first[0])
	}
	spoil(first, api.Op{Key: "spoilt"})
	wantOps(t, "ParseAll", second, e, l)
}

// Bytes that were told are the caller's own.
func TestBytesApart(t *testing.T) {
	for _, l := range [][]api.Op{nil, manyOps(1), manyOps(5), manyOps(api.MaxOps)} {
		first, _ := ops.BytesAll(l...)
		second, e := ops.BytesAll(l...)
		spoil(first, 0xEE)
		if string(second) != listForm(l) || e != api.OK {
			t.Errorf("BytesAll of %d: % x, %v", len(l), second, e)
		}
	}
	for _, o := range goodOps() {
		first, _ := ops.Bytes(o)
		second, e := ops.Bytes(o)
		spoil(first, 0xEE)
		if string(second) != formOf(o) || e != api.OK {
			t.Errorf("Bytes of %v: % x, %v", o, second, e)
		}
	}
}
