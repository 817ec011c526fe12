package stamp_test

import (
	"math"
	"slices"
	"strings"
	"testing"

	"estuary/api"
	"estuary/stamp"
	"estuary/wire"
)

// number is a number's form, made here without layer 1: with spare digits of nought it is longer than it may be.
func number(n uint64, spare int) []byte {
	var b []byte
	for ; n > 127; n /= 128 {
		b = append(b, byte(n%128)|128)
	}
	b = append(b, byte(n))
	for range spare {
		b[len(b)-1] |= 128
		b = append(b, 0)
	}
	return b
}

// field is a part of a form: a number, or a label.
type field struct {
	number uint64
	label  string
	isText bool
	spare  int // digits of nought behind its number, or behind the label's length
}

func (f field) form() []byte {
	if f.isText {
		return append(number(uint64(len(f.label)), f.spare), f.label...)
	}
	return number(f.number, f.spare)
}

func formOf(l []field) []byte {
	var b []byte
	for _, f := range l {
		b = append(b, f.form()...)
	}
	return b
}

// fieldsOf is a stamp's fields, in the order of its form: those of its name are 1 to 3, of its branch 1 and 2.
func fieldsOf(s api.Stamp) []field {
	return []field{
		{number: uint64(s.Gen)},
		{number: uint64(s.Name.Branch.Repo)},
		{label: s.Name.Branch.Label, isText: true},
		{number: uint64(s.Name.Number)},
		{number: uint64(s.Index)},
	}
}

// way is one of the three kinds of things: its fields among a stamp's, and its calls.
type way struct {
	what     string
	from, to int
	put      func(api.Stamp) ([]byte, api.Errno)
	take     func(*wire.Reader) (any, api.Errno)
	of       func(api.Stamp) any
	zero     any
}

func taking[T any](take func(*wire.Reader) (T, api.Errno)) func(*wire.Reader) (any, api.Errno) {
	return func(r *wire.Reader) (any, api.Errno) {
		v, e := take(r)
		return v, e
	}
}

func ways() []way {
	return []way{
		{"branch", 1, 3, func(s api.Stamp) ([]byte, api.Errno) { return stamp.PutBranch(s.Name.Branch) }, taking(stamp.TakeBranch), func(s api.Stamp) any { return s.Name.Branch }, api.Branch{}},
		{"name", 1, 4, func(s api.Stamp) ([]byte, api.Errno) { return stamp.PutName(s.Name) }, taking(stamp.TakeName), func(s api.Stamp) any { return s.Name }, api.Name{}},
		{"stamp", 0, 5, stamp.Put, taking(stamp.Take), func(s api.Stamp) any { return s }, api.Stamp{}},
	}
}

// wantTaken asks that a whole form is read, and the reader goes behind it.
func wantTaken(t *testing.T, w way, b []byte, want any) {
	t.Helper()
	for _, rest := range []string{"", "\x00", "\x09rest", "\xff\xff"} {
		r := wire.Open(append(slices.Clone(b), rest...))
		if got, e := w.take(r); got != want || e != api.OK || r.Left() != len(rest) {
			t.Fatalf("taking the %s % x: %v, %v, %d left of %d behind it; want %v", w.what, b, got, e, r.Left(), len(rest), want)
		}
	}
}

// wantRefused asks that nothing is read where a reader is, at the beginning and behind something: it stays there, however often it is asked.
func wantRefused(t *testing.T, w way, b []byte) {
	t.Helper()
	for _, ahead := range []string{"", "\x05"} {
		r := wire.Open(append([]byte(ahead), b...))
		if ahead != "" {
			r.Number()
		}
		for range 2 {
			if got, e := w.take(r); got != w.zero || e != api.ErrBytes || r.Left() != len(b) {
				t.Fatalf("taking the %s % x: %v, %v, %d left of %d", w.what, b, got, e, r.Left(), len(b))
			}
		}
	}
}

// P6.2, the chapter's examples.
func TestFormExamples(t *testing.T) {
	if b, e := stamp.PutName(sample().Name); string(b) != "\x01\x04\x6D\x61\x69\x6E\x03" || e != api.OK {
		t.Errorf("PutName: % x, %v", b, e)
	}
	if b, e := stamp.Put(sample()); string(b) != "\x05\x01\x04\x6D\x61\x69\x6E\x03\x00" || e != api.OK {
		t.Errorf("Put: % x, %v", b, e)
	}
	if b, e := stamp.PutBranch(api.Branch{Repo: 8, Label: "a"}); b != nil || e != api.ErrArg {
		t.Errorf("PutBranch(8, a): % x, %v", b, e)
	}
	if b, e := stamp.PutBranch(api.Branch{Repo: 0, Label: "A"}); b != nil || e != api.ErrArg {
		t.Errorf("PutBranch(0, A): % x, %v", b, e)
	}
	if b, e := stamp.PutName(nameOf(0, "a", 0)); b != nil || e != api.ErrArg {
		t.Errorf("PutName of the number 0: % x, %v", b, e)
	}
}

// P6.2, P6.5: what may be is written in its form, and read as it was.
func TestPutTake(t *testing.T) {
	for _, w := range ways() {
		for _, s := range goodStamps() {
			b, e := w.put(s)
			if want := formOf(fieldsOf(s)[w.from:w.to]); !slices.Equal(b, want) || e != api.OK {
				t.Fatalf("putting the %s of %v: % x, %v; want % x", w.what, s, b, e, want)
			}
			wantTaken(t, w, b, w.of(s))
		}
	}
	for _, gen := range goodNumbers() {
		for _, index := range goodIndexes() {
			for _, label := range goodLabels() {
				s := api.Stamp{Gen: gen, Name: nameOf(4, label, gen), Index: index}
				wantTaken(t, ways()[2], formOf(fieldsOf(s)), s)
			}
		}
	}
}

// P6.2: what may not be is not written.
func TestPutRefused(t *testing.T) {
	for _, v := range badBranches() {
		if b, e := stamp.PutBranch(v); b != nil || e != api.ErrArg {
			t.Errorf("PutBranch(%v): % x, %v", v, b, e)
		}
	}
	for _, v := range badNames() {
		if b, e := stamp.PutName(v); b != nil || e != api.ErrArg {
			t.Errorf("PutName(%v): % x, %v", v, b, e)
		}
	}
	for _, v := range badStamps() {
		if b, e := stamp.Put(v); b != nil || e != api.ErrArg {
			t.Errorf("Put(%v): % x, %v", v, b, e)
		}
	}
}

// P6.2
func TestTakeNil(t *testing.T) {
	for _, w := range ways() {
		for what, r := range map[string]*wire.Reader{"nil": nil, "zero": new(wire.Reader)} {
			if got, e := w.take(r); got != w.zero || e != api.ErrNil {
				t.Errorf("taking a %s of a %s reader: %v, %v", w.what, what, got, e)
			}
		}
		for _, none := range [][]byte{nil, {}} {
			wantRefused(t, w, none)
		}
	}
}

// P6.2: a form that is cut short anywhere is none.
func TestTakeCut(t *testing.T) {
	for _, w := range ways() {
		for _, s := range goodStamps() {
			b, _ := w.put(s)
			for n := range b {
				wantRefused(t, w, b[:n])
			}
		}
	}
}

// P6.2: a number, or a label's length, in a longer form than its own.
func TestTakeLonger(t *testing.T) {
	for _, w := range ways() {
		for _, s := range goodStamps()[:300] {
			for at := w.from; at < w.to; at++ {
				for spare := range 3 {
					l := fieldsOf(s)
					l[at].spare = spare + 1
					wantRefused(t, w, formOf(l[w.from:w.to]))
				}
			}
		}
	}
}

// P6.2: forms of what may not be, in each of their parts.
func TestTakeMayNotBe(t *testing.T) {
	great := []uint64{1<<62 + 1, 1 << 63, 1<<63 + 1, 1<<63 + 5, math.MaxUint64}
	wrong := map[int][]field{}
	for _, at := range []int{0, 3} {
		for _, n := range append(great, 0) {
			wrong[at] = append(wrong[at], field{number: n})
		}
	}
	for _, n := range append(great, 8, 9, 127, 128, 256, 1<<32, 1<<32+1, 1<<62) {
		wrong[1] = append(wrong[1], field{number: n})
	}
	for _, n := range append(great, 64, 65, 127, 128, 256, 1<<32, 1<<32+1, 1<<62) {
		wrong[4] = append(wrong[4], field{number: n})
	}
	for _, label := range badLabels() {
		wrong[2] = append(wrong[2], field{label: label, isText: true})
	}
	for _, w := range ways() {
		for at := w.from; at < w.to; at++ {
			for _, f := range wrong[at] {
				l := fieldsOf(sample())
				l[at] = f
				wantRefused(t, w, formOf(l[w.from:w.to]))
				wantRefused(t, w, append(formOf(l[w.from:w.to]), 1, 1, 1))
			}
		}
	}
}

// P6.2: lengths of a label of which there are not so many bytes, and numbers that end nowhere.
func TestTakeBroken(t *testing.T) {
	for _, s := range []string{"\x01\x05main", "\x01\xff\xff\xff\xff\xff\xff\xff\xff\xff\x01main", "\x01\xff\xff\xff\xff\xff\xff\xff\xff\xff\x02main", "\xff\xff\xff\xff\xff\xff\xff\xff\xff\xff\xff", "\x01\x0caaaaaaaaaaa", "\x01\x0daaaaaaaaaaaaa", "\x80", strings.Repeat("\xff", 100)} {
		for _, w := range ways()[:2] {
			wantRefused(t, w, []byte(s))
		}
		wantRefused(t, ways()[2], []byte("\x05"+s))
	}
}

// model reads a branch or a name in another way than the program: it is told by its bytes alone.
func model(b []byte, named bool) (api.Name, int, bool) {
	if len(b) < 2 || b[0] > 7 || b[1] < 1 || b[1] > 12 || len(b) < 2+int(b[1]) {
		return api.Name{}, 0, false
	}
	label := b[2 : 2+int(b[1])]
	if strings.Trim(string(label), "abcdefghijklmnopqrstuvwxyz") != "" {
		return api.Name{}, 0, false
	}
	n := nameOf(int(b[0]), string(label), 0)
	used := 2 + len(label)
	if !named {
		return n, used, true
	}
	for i, c := range b[used:] {
		n.Number |= int64(c&127) << (7 * i)
		if c < 128 {
			return n, used + i + 1, n.Number > 0 && (i == 0 || c > 0)
		}
	}
	return api.Name{}, 0, false
}

// P6.2: all forms, and what is none, of up to five of some bytes.
func TestTakeAny(t *testing.T) {
	var all func(b []byte, left int)
	all = func(b []byte, left int) {
		for _, named := range []bool{false, true} {
			r := wire.Open(b)
			var got api.Name
			var e api.Errno
			if named {
				got, e = stamp.TakeName(r)
			} else {
				got.Branch, e = stamp.TakeBranch(r)
			}
			want, used, ok := model(b, named)
			switch {
			case ok && (got != want || e != api.OK || r.Left() != len(b)-used):
				t.Fatalf("% x is read as %v, %v, %d left; want %v", b, got, e, r.Left(), want)
			case !ok && (got != api.Name{} || e != api.ErrBytes || r.Left() != len(b)):
				t.Fatalf("% x is read as %v, %v, %d left", b, got, e, r.Left())
			}
		}
		if left == 0 {
			return
		}
		for _, c := range []byte{0, 1, 2, 7, 8, 'a', 'z', '{', 0x80, 0xFF} {
			all(append(b[:len(b):len(b)], c), left-1)
		}
	}
	all(nil, 5)
}

// P6.2: several forms one behind the other in one reader, of all kinds, and among other things.
func TestTakeSeveral(t *testing.T) {
	l := goodStamps()
	var all [][]byte
	for i, s := range l {
		b, _ := ways()[i%3].put(s)
		all = append(all, b, wire.Signed(int64(-i)))
	}
	r := wire.Open(wire.Join(all...))
	for i, s := range l {
		w := ways()[i%3]
		if got, e := w.take(r); got != w.of(s) || e != api.OK {
			t.Fatalf("the %s %d: %v, %v; want %v", w.what, i, got, e, w.of(s))
		}
		if n, e := r.Signed(); n != int64(-i) || e != api.OK {
			t.Fatalf("behind the %s %d: %d, %v", w.what, i, n, e)
		}
	}
	if e := r.End(); e != api.OK {
		t.Errorf("at the end: %v", e)
	}
}

// P6.2: lists of layer 1 are read by these calls; one that may not be ends them.
func TestTakeLists(t *testing.T) {
	form := func(s api.Stamp) []byte { return formOf(fieldsOf(s)) }
	l := goodStamps()[:50]
	b, _ := wire.Put(l, form)
	r := wire.Open(b)
	if got, e := wire.Take(r, len(l), stamp.Take); !slices.Equal(got, l) || e != api.OK || r.Left() != 0 {
		t.Errorf("a list of %d stamps: %d, %v", len(l), len(got), e)
	}
	l[30].Index = api.MaxOps
	b, _ = wire.Put(l, form)
	r = wire.Open(b)
	if got, e := wire.Take(r, len(l), stamp.Take); got != nil || e != api.ErrBytes || r.Left() != len(b) {
		t.Errorf("a list with a wrong stamp: %d, %v, %d left of %d", len(got), e, r.Left(), len(b))
	}
}

// P6.5: of two that are unlike the forms are unlike, and neither is the beginning of the other one.
func TestFormsApart(t *testing.T) {
	for _, w := range ways() {
		forms := map[any]string{}
		for _, s := range goodStamps() {
			b, _ := w.put(s)
			forms[w.of(s)] = string(b)
		}
		for a, x := range forms {
			for b, y := range forms {
				if a != b && strings.HasPrefix(x, y) {
					t.Fatalf("the form of %v is the beginning of that of %v", b, a)
				}
			}
		}
	}
}
