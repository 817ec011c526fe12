package kinds_test

import (
	"math"
	"slices"
	"strings"
	"testing"

	"estuary/api"
	"estuary/kinds"
)

// opOf is an operation that may be, with a Number or a Text just if its Do names it.
func opOf(r row) api.Op {
	o := api.Op{Path: []string{"a", "b"}, Kind: r.kind, Key: "k", Do: r.do}
	if r.number {
		o.Number = 3
	}
	if r.text {
		o.Text = "x"
	}
	return o
}

// wantOp asks what Check says of an operation, and that it is Stamped just if it may be and brings an element.
func wantOp(t *testing.T, o api.Op, want api.Errno) {
	t.Helper()
	if e := kinds.Check(o); e != want {
		t.Errorf("Check(%.100q %d %.100q, %d %d %.40q): %v, not %v", o.Path[:min(9, len(o.Path))], o.Kind, o.Key, o.Do, o.Number, o.Text, e, want)
	}
	brings := o.Do == api.DoInsert || o.Do == api.DoWrite || o.Do == api.DoPush || o.Do == api.DoAppend
	if kinds.Stamped(o) != (brings && want == api.OK) {
		t.Errorf("Stamped(%d, %d): %v, where Check should be %v", o.Kind, o.Do, kinds.Stamped(o), want)
	}
}

// P9.2, the chapter's examples.
func TestCheckExamples(t *testing.T) {
	wantOp(t, api.Op{Kind: api.Counter, Key: "k", Do: api.DoAdd, Number: 3}, api.OK)
	wantOp(t, api.Op{Kind: api.Queue, Key: "k", Do: api.DoPop, Text: "x"}, api.ErrArg)
	wantOp(t, api.Op{Kind: api.Set, Key: "k", Do: api.DoAdd}, api.ErrType)
	wantOp(t, api.Op{Kind: api.Counter, Key: "a/b", Do: api.DoAdd}, api.ErrArg)
}

// P9.2: each Do with each kind, and with numbers that are none.
func TestCheckKinds(t *testing.T) {
	for _, r := range rows() {
		for _, k := range plain() {
			o := opOf(r)
			o.Kind = k
			want := api.ErrType
			if k == r.kind {
				want = api.OK
			}
			wantOp(t, o, want)
		}
		for _, n := range append(none(), int(api.Map), 7) {
			o := opOf(r)
			o.Kind = api.Kind(n)
			wantOp(t, o, api.ErrArg)
		}
	}
	for _, k := range plain() {
		for _, n := range none() {
			wantOp(t, api.Op{Kind: k, Key: "k", Do: api.Do(n)}, api.ErrArg)
		}
	}
	wantOp(t, api.Op{}, api.ErrArg)
}

// P9.2: a field that the Do names may be anything that a number or a text is; one that it does not name is zero. So it is of each kind, and ahead of ErrType.
func TestCheckFields(t *testing.T) {
	texts := []string{"", "x", "\x00", "\xff\xfe", "a/b;% \n", strings.Repeat("é", api.MaxText/2), strings.Repeat("x", api.MaxText), strings.Repeat("x", api.MaxText+1), strings.Repeat("x", 1<<20)}
	for _, r := range rows() {
		for _, k := range plain() {
			for _, n := range []int64{0, 1, -1, 3, math.MaxInt64, math.MinInt64} {
				for _, text := range texts {
					want := api.ErrType
					if k == r.kind {
						want = api.OK
					}
					if n != 0 && !r.number || text != "" && !r.text || len(text) > api.MaxText {
						want = api.ErrArg
					}
					wantOp(t, api.Op{Kind: k, Key: "k", Do: r.do, Number: n, Text: text}, want)
				}
			}
		}
	}
}

// P9.2: paths and keys that may be, and that may not.
func TestCheckPlaces(t *testing.T) {
	long := strings.Repeat("k", api.MaxKey)
	deep := slices.Repeat([]string{long}, api.MaxDepth)
	for _, r := range rows() {
		for _, path := range [][]string{nil, {}, {"a"}, {"é", " "}, deep} {
			for _, key := range []string{"k", "é", long} {
				o := opOf(r)
				o.Path, o.Key = path, key
				wantOp(t, o, api.OK)
			}
		}
		for _, key := range []string{"", "/", "a/b", "\x1f", "\x00", "\xff", long + "k", "\xed\xa0\x80"} {
			o := opOf(r)
			o.Key = key
			wantOp(t, o, api.ErrArg)
			for _, path := range [][]string{{key}, {key, "a"}, {"a", key}, append(deep[:5:5], key)} {
				o := opOf(r)
				o.Path = path
				wantOp(t, o, api.ErrArg)
				o.Kind = api.Counter + api.Journal - o.Kind // what may not be is told ahead of ErrType
				wantOp(t, o, api.ErrArg)
			}
		}
		for _, depth := range []int{api.MaxDepth + 1, 2 * api.MaxDepth, 1 << 20} {
			o := opOf(r)
			o.Path = slices.Repeat([]string{"a"}, depth)
			wantOp(t, o, api.ErrArg)
		}
	}
}

// P9.2
func TestStamped(t *testing.T) {
	for _, r := range rows() {
		o := opOf(r)
		if kinds.Stamped(o) != r.brings {
			t.Errorf("Stamped of %s: %v", r.word, !r.brings)
		}
		o.Key = ""
		if kinds.Stamped(o) {
			t.Errorf("Stamped of %s without a key", r.word)
		}
	}
}
