package ops_test

import (
	"math"
	"slices"
	"strings"
	"testing"

	"estuary/api"
	"estuary/ops"
	"estuary/wire"
)

// wantRead asks that a form is read whole, and taken where it stands ahead of others and behind others.
func wantRead(t *testing.T, form string, want api.Op) {
	t.Helper()
	got, e := ops.Read([]byte(form))
	wantOp(t, "Read of "+form, got, e, want)
	for _, ahead := range []string{"", "\x00", "\x05"} {
		for _, behind := range []string{"", "\x00", "\x01", "rest", form} {
			r := wire.Open([]byte(ahead + form + behind))
			if ahead != "" {
				r.Number()
			}
			got, e := ops.Take(r)
			wantOp(t, "Take of "+form, got, e, want)
			if r.Left() != len(behind) {
				t.Fatalf("Take of % x leaves %d, not %d", form, r.Left(), len(behind))
			}
		}
	}
}

// wantNoForm asks that bytes are not read, and that a reader stays there, however often it is asked.
func wantNoForm(t *testing.T, form string) {
	t.Helper()
	got, e := ops.Read([]byte(form))
	wantNone(t, "Read of "+form, got, e, api.ErrBytes)
	wantNotTaken(t, form)
}

func wantNotTaken(t *testing.T, form string) {
	t.Helper()
	for _, ahead := range []string{"", "\x05"} {
		r := wire.Open([]byte(ahead + form))
		if ahead != "" {
			r.Number()
		}
		for range 2 {
			got, e := ops.Take(r)
			wantNone(t, "Take of "+form, got, e, api.ErrBytes)
			if r.Left() != len(form) {
				t.Fatalf("Take of % x leaves %d of %d", form, r.Left(), len(form))
			}
		}
	}
}

// P16.1: the chapter's examples, and forms of all Dos written by hand.
func TestFormsByHand(t *testing.T) {
	m := []string{"m"}
	for form, o := range map[string]api.Op{
		"\x01\x00\x04\x68\x69\x74\x73\x06":                      {Kind: api.Counter, Key: "hits", Do: api.DoAdd, Number: 3},
		"\x06\x02\x01\x61\x01\x62\x01\x71":                      {Path: []string{"a", "b"}, Kind: api.Queue, Key: "q", Do: api.DoPop},
		"\x02\x00\x01s\x00":                                     {Kind: api.Set, Key: "s", Do: api.DoInsert},
		"\x01\x01\x01m\x01c\x05":                                {Path: m, Kind: api.Counter, Key: "c", Do: api.DoAdd, Number: -3},
		"\x02\x01\x01m\x01s\x02xy":                              {Path: m, Kind: api.Set, Key: "s", Do: api.DoInsert, Text: "xy"},
		"\x03\x01\x01m\x01s\x02xy":                              {Path: m, Kind: api.Set, Key: "s", Do: api.DoRemove, Text: "xy"},
		"\x04\x01\x01m\x01r\x02xy":                              {Path: m, Kind: api.Register, Key: "r", Do: api.DoWrite, Text: "xy"},
		"\x05\x01\x01m\x01q\x02xy":                              {Path: m, Kind: api.Queue, Key: "q", Do: api.DoPush, Text: "xy"},
		"\x07\x01\x01m\x01j\x02\x00\xff":                        {Path: m, Kind: api.Journal, Key: "j", Do: api.DoAppend, Text: "\x00\xff"},
		"\x06\x00\x02\xc3\xa9":                                  {Kind: api.Queue, Key: "é", Do: api.DoPop},
		"\x01\x00\x01c\xfe\xff\xff\xff\xff\xff\xff\xff\xff\x01": {Kind: api.Counter, Key: "c", Do: api.DoAdd, Number: math.MaxInt64},
		"\x01\x00\x01c\xff\xff\xff\xff\xff\xff\xff\xff\xff\x01": {Kind: api.Counter, Key: "c", Do: api.DoAdd, Number: math.MinInt64},
		"\x01\x00\x01c\x80\x01":                                 {Kind: api.Counter, Key: "c", Do: api.DoAdd, Number: 64},
		"\x04\x06\x011\x012\x013\x014\x015\x016\x40" + strings.Repeat("k", 64) + "\x80\x02" + strings.Repeat("\xff", 256): {Path: []string{"1", "2", "3", "4", "5", "6"}, Kind: api.Register, Key: strings.Repeat("k", 64), Do: api.DoWrite, Text: strings.Repeat("\xff", 256)},
	} {
		if b, e := ops.Bytes(o); string(b) != form || e != api.OK {
			t.Errorf("Bytes of %v: % x, %v; want % x", o, b, e, form)
		}
		wantRead(t, form, o)
	}
}

// P16.1, P16.4: what may be is written in its form, and read as it was.
func TestBytesRead(t *testing.T) {
	for _, o := range goodOps() {
		b, e := ops.Bytes(o)
		if want := formOf(o); string(b) != want || e != api.OK {
			t.Fatalf("Bytes of %v: % x, %v; want % x", o, b, e, want)
		}
		wantRead(t, string(b), o)
	}
}

// P16.1: what may not be is not written: layer 9's error.
func TestBytesRefused(t *testing.T) {
	for _, w := range wrongOps() {
		if b, e := ops.Bytes(w.op); b != nil || e != w.want {
			t.Errorf("Bytes of %.200v: % x, %v; want %v", w.op, b, e, w.want)
		}
	}
}

// P16.1: of a reader that is not there, and of a zero one.
func TestTakeNil(t *testing.T) {
	for range 2 {
		got, e := ops.Take(nil)
		wantNone(t, "Take of nil", got, e, api.ErrNil)
		got, e = ops.Take(new(wire.Reader))
		wantNone(t, "Take of a zero reader", got, e, api.ErrNil)
	}
	for _, b := range [][]byte{nil, {}} {
		got, e := ops.Take(wire.Open(b))
		wantNone(t, "Take of no bytes", got, e, api.ErrBytes)
		got, e = ops.Read(b)
		wantNone(t, "Read of no bytes", got, e, api.ErrBytes)
		l, e := ops.ReadAll(b)
		wantNoOps(t, "ReadAll of no bytes", l, e, api.ErrBytes)
	}
}

// P16.1: a form that is cut short at any byte is none, and one with a byte behind it is none to Read.
func TestFormsCut(t *testing.T) {
	for _, o := range goodOps() {
		form := formOf(o)
		for n := range form {
			if n > 40 && n < len(form)-40 && n%7 != 0 { // the long texts' middles are all alike
				continue
			}
			wantNoForm(t, form[:n])
		}
		for _, more := range []string{"\x00", "\x01", "x", "\xff", form} {
			got, e := ops.Read([]byte(form + more))
			wantNone(t, "Read of a form with more behind it", got, e, api.ErrBytes)
		}
	}
}

// parts is an operation's form in its numbers and what they count: Do, how many keys, each key's length, and the rest.
func parts(o api.Op) (numbers []uint64, texts []string) {
	numbers, texts = []uint64{uint64(rowOf(o).code), uint64(len(o.Path))}, []string{"", ""}
	for _, key := range append(slices.Clone(o.Path), o.Key) {
		numbers, texts = append(numbers, uint64(len(key))), append(texts, key)
	}
	switch rowOf(o).has {
	case "number":
		numbers, texts = append(numbers, signed(o.Number)), append(texts, "")
	case "text":
		numbers, texts = append(numbers, uint64(len(o.Text))), append(texts, o.Text)
	}
	return numbers, texts
}

// laid puts the parts together, one of them changed.
func laid(numbers []uint64, texts []string, at int, number string) string {
	s := ""
	for i, n := range numbers {
		if i == at {
			s += number + texts[i]
		} else {
			s += numberForm(n, 0) + texts[i]
		}
	}
	return s
}

// P16.1: a number in a longer form than need be, or above all numbers, or that ends nowhere; a count that no bytes follow.
func TestFormsBroken(t *testing.T) {
	for _, o := range goodOps() {
		numbers, texts := parts(o)
		if form := laid(numbers, texts, -1, ""); form != formOf(o) {
			t.Fatalf("the parts of %v are % x", o, form)
		}
		for at, n := range numbers {
			for spare := 1; spare < 4; spare++ {
				wantNoForm(t, laid(numbers, texts, at, numberForm(n, spare)))
			}
			for _, wrong := range []string{"", "\x80", "\xff\xff\xff\xff\xff\xff\xff\xff\xff\x02", "\xff\xff\xff\xff\xff\xff\xff\xff\xff\xff\x01", strings.Repeat("\xff", 20)} {
				wantAsModel(t, laid(numbers, texts, at, wrong))
			}
			if at == 0 || at == len(numbers)-1 && rowOf(o).has == "number" {
				continue
			}
			for _, count := range []uint64{n + 1, 7, 65, 257, 1 << 20, 1<<32 + n, 1 << 62, 1<<63 + n, math.MaxUint64} {
				cut := laid(numbers[:at], texts[:at], -1, "") + numberForm(count, 0)
				wantNoForm(t, cut)
				wantAsModel(t, laid(numbers, texts, at, numberForm(count, 0)))
			}
		}
	}
}

// P16.1: each number that is no Do, also those that less room would make one of.
func TestFormsOfNoDo(t *testing.T) {
	for _, r := range rows() {
		numbers, texts := parts(opOf(r, []string{"m"}, "k", 3, "x"))
		for n := range uint64(300) {
			if n == 0 || n > 7 {
				wantNoForm(t, laid(numbers, texts, 0, numberForm(n, 0)))
			}
		}
		for do := range uint64(8) {
			for _, n := range []uint64{1 << 8, 1 << 16, 1 << 31, 1 << 32, 1 << 62, 1 << 63, 1<<64 - 1<<32} {
				wantNoForm(t, laid(numbers, texts, 0, numberForm(n+do, 0)))
			}
			wantNoForm(t, laid(numbers, texts, 0, numberForm(-do-1, 0)))
		}
	}
}

// P16.1: forms of operations that may not be.
func TestFormsOfWrong(t *testing.T) {
	for _, r := range rows() {
		for _, key := range []string{"", "/", "a/b", "\x1f", "\x00", "\xff", "\xc3", "a\xed\xa0\x80", "\xc0\x80", strings.Repeat("k", api.MaxKey+1)} {
			wantNoForm(t, formOf(opOf(r, nil, key, 3, "x")))
			wantNoForm(t, formOf(opOf(r, []string{key}, "k", 3, "x")))
			wantNoForm(t, formOf(opOf(r, []string{"1", "2", "3", "4", "5", key}, "k", 3, "x")))
		}
		wantNoForm(t, formOf(opOf(r, []string{"1", "2", "3", "4", "5", "6", "7"}, "k", 3, "x")))
		if r.has == "text" {
			wantNoForm(t, formOf(opOf(r, nil, "k", 0, strings.Repeat("x", api.MaxText+1))))
		}
	}
}

// modelOf reads an operation as the chapter's words say, and tells what is left behind it.
func modelOf(s string) (api.Op, string, bool) {
	var o api.Op
	is := true
	number := func() uint64 {
		var n uint64
		for i := 0; i < len(s); i++ {
			n |= uint64(s[i]&127) << (7 * i)
			if s[i] < 128 {
				is = is && (i == 0 || s[i] > 0) && (i < 9 || i == 9 && s[i] < 2)
				s = s[i+1:]
				return n
			}
		}
		is = false
		return 0
	}
	text := func(most uint64) string {
		n := number()
		if !is || n > most || n > uint64(len(s)) {
			is = false
			return ""
		}
		text := s[:n]
		s = s[n:]
		return text
	}
	key := func() string {
		key := text(64)
		is = is && key != "" && strings.ToValidUTF8(key, "/") == key && !strings.ContainsFunc(key, func(r rune) bool { return r < 32 || r == '/' })
		return key
	}
	do := number()
	if !is || do < 1 || do > 7 {
		return o, s, false
	}
	r := rows()[do-1]
	o.Do, o.Kind = r.do, r.kind
	for n := number(); is && n > 0; n-- {
		o.Path = append(o.Path, key())
	}
	o.Key = key()
	switch r.has {
	case "number":
		n := number()
		o.Number = int64(n / 2)
		if n%2 == 1 {
			o.Number = -o.Number - 1
		}
	case "text":
		o.Text = text(256)
	}
	return o, s, is && len(o.Path) <= 6
}

// wantAsModel asks that bytes are read, and taken, just as the model says.
func wantAsModel(t *testing.T, form string) {
	t.Helper()
	want, rest, is := modelOf(form)
	r := wire.Open([]byte(form))
	got, e := ops.Take(r)
	if is {
		wantOp(t, "Take of "+form, got, e, want)
	} else {
		wantNone(t, "Take of "+form, got, e, api.ErrBytes)
		rest = form
	}
	if r.Left() != len(rest) {
		t.Fatalf("Take of % x leaves %d, not %d", form, r.Left(), len(rest))
	}
	got, e = ops.Read([]byte(form))
	if is && rest == "" {
		wantOp(t, "Read of "+form, got, e, want)
	} else {
		wantNone(t, "Read of "+form, got, e, api.ErrBytes)
	}
}

// P16.1: all bytes of a few, held against the model.
func TestFormsOfFew(t *testing.T) {
	var all func(form string, left int)
	all = func(form string, left int) {
		wantAsModel(t, form)
		if left == 0 {
			return
		}
		for _, c := range []byte{0, 1, 2, 6, 7, 8, 'k', '/', 0x80, 0xff} {
			all(form+string([]byte{c}), left-1)
		}
	}
	all("", 5)
	for do := range byte(9) { // longer ones, which begin as a form does
		all(string([]byte{do, 1, 1, 'm', 1}), 4)
		all(string([]byte{do, 0, 1, 'k', 2}), 3)
	}
}

// P16.1, P16.4: each byte of a form changed, left out, or put in twice: what is read then has those very bytes.
func TestFormsChanged(t *testing.T) {
	for _, r := range rows() {
		form := formOf(opOf(r, []string{"m", "é"}, "k", -300, "ab\xff"))
		for at := range form {
			tries := []string{form[:at] + form[at+1:], form[:at+1] + form[at:]}
			for n := range 256 {
				tries = append(tries, form[:at]+string([]byte{byte(n)})+form[at+1:])
			}
			for _, try := range tries {
				wantAsModel(t, try)
				if got, e := ops.Read([]byte(try)); e == api.OK && formOf(got) != try {
					t.Fatalf("Read of % x: %v", try, got)
				}
			}
		}
	}
}

// P16.4: of two that are unlike the forms are unlike, and neither is the beginning of the other one; lists' likewise.
func TestFormsApart(t *testing.T) {
	forms := map[string]api.Op{}
	for _, o := range goodOps() {
		b, _ := ops.Bytes(o)
		if was, has := forms[string(b)]; has && !same(was, o) {
			t.Fatalf("%v and %v have one form", was, o)
		}
		forms[string(b)] = o
	}
	wantNoBeginnings(t, forms)
	lists := map[string]int{}
	some := smallLists()
	for i, l := range some {
		b, _ := ops.BytesAll(l...)
		if was, has := lists[string(b)]; has {
			t.Fatalf("%v and %v have one form", some[was], l)
		}
		lists[string(b)] = i
	}
	wantNoBeginnings(t, lists)
}

// wantNoBeginnings asks that no key is the beginning of another one: sorted, such a one would stand right behind it.
func wantNoBeginnings[V any](t *testing.T, forms map[string]V) {
	t.Helper()
	var all []string
	for form := range forms {
		all = append(all, form)
	}
	slices.Sort(all)
	for i := 1; i < len(all); i++ {
		if strings.HasPrefix(all[i], all[i-1]) {
			t.Fatalf("% x is the beginning of % x", all[i-1], all[i])
		}
	}
}

// P16.1: several forms one behind the other in one reader, among other things.
func TestTakeSeveral(t *testing.T) {
	l := goodOps()
	var all []byte
	for i, o := range l {
		all = append(append(all, formOf(o)...), wire.Signed(int64(-i))...)
	}
	r := wire.Open(all)
	for i, o := range l {
		got, e := ops.Take(r)
		wantOp(t, "Take of one of several", got, e, o)
		if n, e := r.Signed(); n != int64(-i) || e != api.OK {
			t.Fatalf("behind the operation %d: %d, %v", i, n, e)
		}
	}
	if e := r.End(); e != api.OK {
		t.Errorf("at the end: %v", e)
	}
}
