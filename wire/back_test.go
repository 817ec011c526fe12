package wire_test

import (
	"bytes"
	"math"
	"strings"
	"testing"

	"estuary/api"
	"estuary/wire"
)

// someNumbers are those around each power of two.
func someNumbers() []uint64 {
	l := []uint64{0, math.MaxUint64}
	for i := range 64 {
		p := uint64(1) << i
		l = append(l, p-1, p, p+1)
	}
	return l
}

// P1.5, P0.11: what was written is read as it was.
func TestThereAndBack(t *testing.T) {
	for _, n := range someNumbers() {
		s := int64(n)
		text := make([]byte, n%600)
		b := wire.Join(wire.Number(n), wire.Signed(s), wire.Signed(^s), wire.Flag(n%2 == 1), wire.Bytes(text))
		r := wire.Open(b)
		n1, e1 := r.Number()
		s1, e2 := r.Signed()
		s2, e3 := r.Signed()
		is, e4 := r.Flag()
		text1, e5 := r.Bytes(600)
		if n1 != n || s1 != s || s2 != ^s || is != (n%2 == 1) || !bytes.Equal(text1, text) || r.End() != api.OK {
			t.Errorf("%d: %d %d %d %v, %d bytes, end %v", n, n1, s1, s2, is, len(text1), r.End())
		}
		if e1 != api.OK || e2 != api.OK || e3 != api.OK || e4 != api.OK || e5 != api.OK {
			t.Errorf("%d: %v %v %v %v %v", n, e1, e2, e3, e4, e5)
		}
	}
}

// P1.5, P0.11
func TestListThereAndBack(t *testing.T) {
	for _, k := range []int{0, 1, 127, 128, 194} {
		l := someNumbers()[:k]
		b, e := wire.Put(l, wire.Number)
		if e != api.OK {
			t.Fatalf("Put of %d: %v", k, e)
		}
		r := wire.Open(b)
		back, e := wire.Take(r, k, (*wire.Reader).Number)
		if e != api.OK || len(back) != k || r.End() != api.OK {
			t.Fatalf("Take of %d: %d, %v", k, len(back), e)
		}
		for i := range l {
			if l[i] != back[i] {
				t.Errorf("%d of %d: %d, want %d", i, k, back[i], l[i])
			}
		}
	}
}

// reads are how each kind is read from bytes and written again of what was read.
var reads = map[string]func(r *wire.Reader) ([]byte, api.Errno){
	"Number": func(r *wire.Reader) ([]byte, api.Errno) {
		n, e := r.Number()
		return wire.Number(n), e
	},
	"Signed": func(r *wire.Reader) ([]byte, api.Errno) {
		n, e := r.Signed()
		return wire.Signed(n), e
	},
	"Flag": func(r *wire.Reader) ([]byte, api.Errno) {
		is, e := r.Flag()
		return wire.Flag(is), e
	},
	"Bytes": func(r *wire.Reader) ([]byte, api.Errno) {
		b, e := r.Bytes(math.MaxInt)
		return wire.Bytes(b), e
	},
	"Take": func(r *wire.Reader) ([]byte, api.Errno) {
		l, e := wire.Take(r, math.MaxInt, (*wire.Reader).Number)
		b, _ := wire.Put(l, wire.Number)
		return b, e
	},
}

// wantBack: bytes that are read are those that are written of what was read; else none was read.
func wantBack(t *testing.T, b []byte) {
	t.Helper()
	for kind, read := range reads {
		r := wire.Open(b)
		back, e := read(r)
		used := b[:len(b)-r.Left()]
		switch {
		case e == api.OK && !bytes.Equal(used, back):
			t.Fatalf("%s: % x was read, % x is written", kind, used, back)
		case e != api.OK && (e != api.ErrBytes && e != api.ErrLong || len(used) > 0):
			t.Fatalf("%s of % x: %v, went on by %d", kind, b, e, len(used))
		}
	}
}

// P1.5, P0.11: all bytes up to two, and three around the edges.
func TestBytesBackAndThere(t *testing.T) {
	wantBack(t, nil)
	edges := []byte{0, 1, 2, 3, 0x7f, 0x80, 0x81, 0xff}
	for a := range 256 {
		wantBack(t, []byte{byte(a)})
		for b := range 256 {
			wantBack(t, []byte{byte(a), byte(b)})
			for _, c := range edges {
				wantBack(t, []byte{byte(a), byte(b), c})
			}
		}
	}
}

// P1.5, P0.11: long forms, with each byte another one in turn.
func TestLongBytesBackAndThere(t *testing.T) {
	for _, s := range append([]string{greatest, greatest + "\x00"}, wrongNumbers...) {
		for i := range len(s) {
			for c := range 256 {
				b := []byte(s)
				b[i] = byte(c)
				wantBack(t, b)
			}
		}
	}
}

// P1.5: no form is the beginning of another one of its kind, so of a form cut short nothing is read.
func TestNoFormBeginsAnother(t *testing.T) {
	forms := map[string][]string{"Flag": {string(wire.Flag(false)), string(wire.Flag(true))}}
	for _, n := range someNumbers() {
		forms["Number"] = append(forms["Number"], string(wire.Number(n)))
		forms["Signed"] = append(forms["Signed"], string(wire.Signed(int64(n))))
		forms["Bytes"] = append(forms["Bytes"], string(wire.Bytes(make([]byte, n%200))))
	}
	for k := range 130 {
		b, _ := wire.Put(someNumbers()[:k], wire.Number)
		forms["Take"] = append(forms["Take"], string(b))
	}
	for kind, l := range forms {
		for _, a := range l {
			for _, b := range l {
				if a != b && strings.HasPrefix(b, a) {
					t.Errorf("%s: % x begins % x", kind, a, b)
				}
			}
			for i := range len(a) {
				r := wire.Open([]byte(a[:i]))
				if _, e := reads[kind](r); e != api.ErrBytes || r.Left() != i {
					t.Errorf("%s of % x, cut to %d: %v, left %d", kind, a, i, e, r.Left())
				}
			}
		}
	}
}
