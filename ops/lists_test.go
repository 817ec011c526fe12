package ops_test

import (
	"math"
	"slices"
	"strings"
	"testing"

	"estuary/api"
	"estuary/ops"
)

// smallLists is lists of none, one, two and three of some operations.
func smallLists() [][]api.Op {
	some := []api.Op{
		{Kind: api.Counter, Key: "hits", Do: api.DoAdd, Number: 3},
		{Kind: api.Counter, Key: "hits", Do: api.DoAdd, Number: -3},
		{Path: []string{"a", "b"}, Kind: api.Queue, Key: "q", Do: api.DoPop},
		{Kind: api.Queue, Key: "q", Do: api.DoPop},
		{Kind: api.Set, Key: "s", Do: api.DoInsert},
		{Kind: api.Set, Key: "s", Do: api.DoRemove, Text: "; pop / q"},
		{Path: []string{";", ". "}, Kind: api.Register, Key: "r", Do: api.DoWrite, Text: "."},
		{Kind: api.Journal, Key: "j", Do: api.DoAppend, Text: "\x00\xff"},
	}
	lists := [][]api.Op{nil}
	for from := 0; len(lists) < 585; from++ {
		for _, o := range some {
			lists = append(lists, append(slices.Clone(lists[from]), o))
		}
	}
	return lists
}

// manyOps is n operations of all kinds.
func manyOps(n int) []api.Op {
	good := goodOps()
	var l []api.Op
	for i := range n {
		l = append(l, good[(i*37)%len(good)])
	}
	return l
}

// P16.2, P16.4: lists of none, of one, of several, there and back.
func TestLists(t *testing.T) {
	lists := append(smallLists(), []api.Op{}, manyOps(1), manyOps(2), manyOps(api.MaxOps-1), manyOps(api.MaxOps))
	for _, l := range lists {
		b, e := ops.BytesAll(l...)
		if want := listForm(l); string(b) != want || e != api.OK {
			t.Fatalf("BytesAll of %v: % x, %v; want % x", l, b, e, want)
		}
		got, e := ops.ReadAll(b)
		wantOps(t, "ReadAll", got, e, l)
		s, e := ops.TextAll(l...)
		if want := listText(l); s != want || e != api.OK {
			t.Fatalf("TextAll of %v: %q, %v; want %q", l, s, e, want)
		}
		got, e = ops.ParseAll(s)
		wantOps(t, "ParseAll", got, e, l)
	}
}

// P16.2: the chapter's example, and lists' forms written by hand.
func TestListsByHand(t *testing.T) {
	add := api.Op{Kind: api.Counter, Key: "hits", Do: api.DoAdd, Number: 3}
	pop := api.Op{Path: []string{"a", "b"}, Kind: api.Queue, Key: "q", Do: api.DoPop}
	if s, e := ops.TextAll(add, pop); s != "add / hits 3; pop /a/b q" || e != api.OK {
		t.Errorf("TextAll: %q, %v", s, e)
	}
	if s, e := ops.TextAll(); s != "." || e != api.OK {
		t.Errorf("TextAll of none: %q, %v", s, e)
	}
	if b, e := ops.BytesAll(); string(b) != "\x00" || e != api.OK {
		t.Errorf("BytesAll of none: % x, %v", b, e)
	}
	if b, e := ops.BytesAll(add, pop); string(b) != "\x02\x01\x00\x04hits\x06\x06\x02\x01a\x01b\x01q" || e != api.OK {
		t.Errorf("BytesAll: % x, %v", b, e)
	}
	l, e := ops.ReadAll([]byte("\x02\x01\x00\x04hits\x06\x06\x02\x01a\x01b\x01q"))
	wantOps(t, "ReadAll", l, e, []api.Op{add, pop})
	l, e = ops.ParseAll("add / hits 3; pop /a/b q")
	wantOps(t, "ParseAll", l, e, []api.Op{add, pop})
	l, e = ops.ReadAll([]byte{0})
	wantOps(t, "ReadAll of none", l, e, nil)
	l, e = ops.ParseAll(".")
	wantOps(t, "ParseAll of none", l, e, nil)
}

// wantNoList asks that a list is told neither as bytes nor as text.
func wantNoList(t *testing.T, l []api.Op, want api.Errno) {
	t.Helper()
	if b, e := ops.BytesAll(l...); b != nil || e != want {
		t.Fatalf("BytesAll of %d: % x, %v; want %v", len(l), b, e, want)
	}
	if s, e := ops.TextAll(l...); s != "" || e != want {
		t.Fatalf("TextAll of %d: %q, %v; want %v", len(l), s, e, want)
	}
}

// P16.2: of the first operation that may not be its error, wherever it stands.
func TestListsRefused(t *testing.T) {
	many := manyOps(api.MaxOps + 1)
	for _, w := range wrongOps() {
		for _, n := range []int{1, 2, 5, api.MaxOps, api.MaxOps + 1} {
			for _, at := range []int{0, n / 2, n - 1} {
				l := slices.Clone(many[:n])
				l[at] = w.op
				wantNoList(t, l, w.want)
			}
		}
	}
	wrongType, wrongArg := api.Op{Kind: api.Set, Key: "k", Do: api.DoAdd}, api.Op{Kind: api.Counter, Key: "", Do: api.DoAdd}
	wantNoList(t, []api.Op{wrongType, wrongArg}, api.ErrType)
	wantNoList(t, []api.Op{wrongArg, wrongType}, api.ErrArg)
	for _, n := range []int{api.MaxOps, api.MaxOps + 1, 3 * api.MaxOps} {
		l := manyOps(n)
		l[n-2], l[n-1] = wrongType, wrongArg
		wantNoList(t, l, api.ErrType)
		l[n-2], l[n-1] = wrongArg, wrongType
		wantNoList(t, l, api.ErrArg)
	}
}

// P16.2: one more than may be, and far more: ErrLong, and what would tell them is not read.
func TestListsTooLong(t *testing.T) {
	for _, n := range []int{api.MaxOps + 1, api.MaxOps + 2, 127, 128, 129, 256 + api.MaxOps, 10000} {
		l := manyOps(n)
		wantNoList(t, l, api.ErrLong)
		got, e := ops.ReadAll([]byte(listForm(l)))
		wantNoOps(t, "ReadAll of too many", got, e, api.ErrBytes)
		got, e = ops.ParseAll(listText(l))
		wantNoOps(t, "ParseAll of too many", got, e, api.ErrBytes)
	}
	for _, n := range []uint64{65, 1 << 20, 1 << 32, 1<<32 + 1, 1 << 63, math.MaxUint64} {
		for _, behind := range []string{"", formOf(manyOps(1)[0])} {
			got, e := ops.ReadAll([]byte(numberForm(n, 0) + behind))
			wantNoOps(t, "ReadAll of a great count", got, e, api.ErrBytes)
		}
	}
}

// P16.2: a list's form cut short at any byte, with more behind it, with another count, or a wrong one within.
func TestListFormsBroken(t *testing.T) {
	for _, l := range append(smallLists()[:120], manyOps(5)) {
		form := listForm(l)
		tries := []string{form + "\x00", form + "x", form + form, "\x80" + form, numberForm(uint64(len(l)), 1) + form[1:], numberForm(uint64(len(l)), 2) + form[1:], numberForm(uint64(len(l)+1), 0) + form[1:]}
		if len(l) > 0 {
			tries = append(tries, form[1:], numberForm(uint64(len(l)-1), 0)+form[1:], "\x00"+form[1:])
		}
		for n := range form {
			tries = append(tries, form[:n])
		}
		for at := range l {
			for _, wrong := range []string{"", "\x00", "\x00\x00\x01k\x00", "\x08\x00\x01k\x00", "\x06\x00\x00", "\x06\x00\x01/", "\x01\x00\x01c\x80\x00", "\x81\x00\x00\x01c\x00"} {
				tries = append(tries, form[:1]+listForm(l[:at])[1:]+wrong+listForm(l[at+1:])[1:])
			}
		}
		for _, try := range tries {
			got, e := ops.ReadAll([]byte(try))
			wantNoOps(t, "ReadAll of "+try, got, e, api.ErrBytes)
		}
	}
}

// P16.2: a list's sign between nothing, at either end, or written otherwise.
func TestListTextsBroken(t *testing.T) {
	one, two := "add / hits 3", "pop /a/b q"
	for _, s := range []string{"; ", one + "; ", "; " + one, one + "; ; " + two, one + ";" + two, one + " ; " + two, one + ";  " + two, one + "; " + two + ";", one + "; " + two + "; ", one + "; " + two + " ", one + ";\t" + two, one + "\n" + two, one + ", " + two, one + two, one + " " + two, one + ";; " + two, one + ".", one + "; .", ".; " + one, ".;", ". ", " .", "..", ".; .", one + "%3B " + two, one + "; fly / k", one + "; " + two + " x", "add / hits 03; " + two} {
		got, e := ops.ParseAll(s)
		wantNoOps(t, "ParseAll of "+s, got, e, api.ErrBytes)
	}
	for _, s := range []string{one, two, strings.Join([]string{one, two}, "; ")} {
		if got, e := ops.ParseAll(s); len(got) != strings.Count(s, ";")+1 || e != api.OK {
			t.Errorf("ParseAll of %q: %v, %v", s, got, e)
		}
	}
}
