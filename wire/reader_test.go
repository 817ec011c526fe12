package wire_test

import (
	"bytes"
	"math"
	"slices"
	"testing"

	"estuary/api"
	"estuary/wire"
)

// wantStay: beside an error the answer is zero and the reader is where it was, so that what stands there is still read.
func wantStay(t *testing.T, what any, r *wire.Reader, left int, zero bool, got, want api.Errno) {
	t.Helper()
	if got != want || !zero || r.Left() != left {
		t.Errorf("%v: %v, want %v; zero answer %v; left %d, want %d", what, got, want, zero, r.Left(), left)
	}
}

// P1.2
func TestOpenLeftEnd(t *testing.T) {
	for _, b := range [][]byte{nil, {}} {
		r := wire.Open(b)
		if r.Left() != 0 || r.End() != api.OK {
			t.Errorf("of nothing: left %d, end %v", r.Left(), r.End())
		}
	}
	r := wire.Open([]byte{5, 0x80, 1, 0})
	for _, left := range []int{4, 3, 1} {
		if r.Left() != left || r.End() != api.ErrBytes {
			t.Errorf("left %d, want %d; end %v", r.Left(), left, r.End())
		}
		r.Number()
	}
	if r.Left() != 0 || r.End() != api.OK {
		t.Errorf("behind all: left %d, end %v", r.Left(), r.End())
	}
}

// P1.2: the bytes as they are when Open is called.
func TestOpenKeepsBytesAsTheyAre(t *testing.T) {
	b := []byte{1, 2, 'a', 'b'}
	r := wire.Open(b)
	clear(b)
	n, e := r.Number()
	s, f := r.Bytes(2)
	if n != 1 || string(s) != "ab" || e != api.OK || f != api.OK {
		t.Errorf("read %d, %q, %v, %v", n, s, e, f)
	}
}

// P1.2: each reader has a place of its own.
func TestReadersGoApart(t *testing.T) {
	b := []byte{1, 2, 3}
	r, s := wire.Open(b), wire.Open(b)
	r.Number()
	if r.Left() != 2 || s.Left() != 3 {
		t.Errorf("left %d and %d", r.Left(), s.Left())
	}
}

// P1.2 to P1.4
func TestReaderThatIsNotThere(t *testing.T) {
	for _, r := range []*wire.Reader{nil, new(wire.Reader), {}} {
		n, e1 := r.Number()
		s, e2 := r.Signed()
		is, e3 := r.Flag()
		b, e4 := r.Bytes(1)
		c, e5 := r.Bytes(-1)
		l, e6 := wire.Take(r, 1, (*wire.Reader).Number)
		k, e7 := wire.Take(r, -1, (*wire.Reader).Flag)
		for i, e := range []api.Errno{e1, e2, e3, e4, e5, e6, e7, r.End()} {
			if e != api.ErrNil {
				t.Errorf("call %d: %v", i, e)
			}
		}
		if n != 0 || s != 0 || is || b != nil || c != nil || l != nil || k != nil || r.Left() != 0 {
			t.Errorf("answers: %d %d %v %v %v %v %v %d", n, s, is, b, c, l, k, r.Left())
		}
	}
}

// P1.3
func TestReadNumbers(t *testing.T) {
	for _, x := range numbers {
		r := wire.Open([]byte(x.form + "\x00"))
		if n, e := r.Number(); n != x.n || e != api.OK || r.Left() != 1 {
			t.Errorf("Number of % x: %d, %v, left %d", x.form, n, e, r.Left())
		}
	}
	for _, x := range signeds {
		r := wire.Open([]byte(x.form + "\x00"))
		if n, e := r.Signed(); n != x.n || e != api.OK || r.Left() != 1 {
			t.Errorf("Signed of % x: %d, %v, left %d", x.form, n, e, r.Left())
		}
	}
}

// wrongNumbers are cut short, have noughts behind, or are above 2^64 - 1.
var wrongNumbers = []string{
	"", "\x80", "\xff\xff", "\xff\xff\xff\xff\xff\xff\xff\xff\xff",
	"\x80\x00", "\xff\x00", "\x80\x80\x00", "\x81\x80\x00\x05", "\xff\xff\xff\xff\xff\xff\xff\xff\xff\x00",
	"\xff\xff\xff\xff\xff\xff\xff\xff\xff\x02", "\x80\x80\x80\x80\x80\x80\x80\x80\x80\x02", "\xff\xff\xff\xff\xff\xff\xff\xff\xff\x7f",
	"\xff\xff\xff\xff\xff\xff\xff\xff\xff\x80\x00", "\xff\xff\xff\xff\xff\xff\xff\xff\xff\x81\x01", "\x80\x80\x80\x80\x80\x80\x80\x80\x80\x80\x01",
	"\xff\xff\xff\xff\xff\xff\xff\xff\xff\xff\xff\xff\xff\xff\xff\xff\xff\xff\xff\xff\x01",
}

// P1.3, P1.4: the number's error is that of all that begins with a number.
func TestReadWrongNumbers(t *testing.T) {
	for _, s := range wrongNumbers {
		r := wire.Open([]byte(s))
		n, e := r.Number()
		wantStay(t, "Number", r, len(s), n == 0, e, api.ErrBytes)
		i, e := r.Signed()
		wantStay(t, "Signed", r, len(s), i == 0, e, api.ErrBytes)
		for _, most := range []int{0, 9, math.MaxInt} {
			b, e := r.Bytes(most)
			wantStay(t, "Bytes", r, len(s), b == nil, e, api.ErrBytes)
			l, e := wire.Take(r, most, (*wire.Reader).Number)
			wantStay(t, "Take", r, len(s), l == nil, e, api.ErrBytes)
		}
	}
}

// P1.3: a reader that was refused goes on where it was, by another call.
func TestReadOnBehindError(t *testing.T) {
	r := wire.Open([]byte{7, 2, 'a', 'b', 0x80})
	r.Number()
	if is, e := r.Flag(); e != api.ErrBytes || is {
		t.Errorf("Flag of 2: %v, %v", is, e)
	}
	if b, e := r.Bytes(1); e != api.ErrLong || b != nil {
		t.Errorf("Bytes(1): %q, %v", b, e)
	}
	if b, e := r.Bytes(2); string(b) != "ab" || e != api.OK {
		t.Errorf("Bytes(2): %q, %v", b, e)
	}
	if _, e := r.Number(); e != api.ErrBytes || r.Left() != 1 {
		t.Errorf("Number of 80: %v, left %d", e, r.Left())
	}
}

// P1.3
func TestReadFlags(t *testing.T) {
	r := wire.Open([]byte{1, 0})
	for _, want := range []bool{true, false} {
		if is, e := r.Flag(); is != want || e != api.OK {
			t.Errorf("Flag: %v, %v, want %v", is, e, want)
		}
	}
	is, e := r.Flag()
	wantStay(t, "Flag of nothing", r, 0, !is, e, api.ErrBytes)
	for b := 2; b < 256; b++ {
		r := wire.Open([]byte{byte(b), 1})
		is, e := r.Flag()
		wantStay(t, b, r, 2, !is, e, api.ErrBytes)
	}
}

// P1.3
func TestReadBytes(t *testing.T) {
	for _, x := range []struct {
		bytes string
		most  int
		want  string
		left  int
	}{
		{"\x00", 0, "", 0},
		{"\x00", 5, "", 0},
		{"\x00a", 0, "", 1},
		{"\x02ab", 2, "ab", 0},
		{"\x02abc", 2, "ab", 1},
		{"\x02ab", 3, "ab", 0},
		{"\x02ab", math.MaxInt, "ab", 0},
		{"\x80\x01" + string(make([]byte, 128)), 128, string(make([]byte, 128)), 0},
	} {
		r := wire.Open([]byte(x.bytes))
		if b, e := r.Bytes(x.most); string(b) != x.want || e != api.OK || r.Left() != x.left {
			t.Errorf("Bytes(%d) of % x: % x, %v, left %d", x.most, x.bytes, b, e, r.Left())
		}
	}
}

// P1.3: ErrArg ahead of the number's error, ErrLong ahead of there being fewer.
func TestReadWrongBytes(t *testing.T) {
	for _, x := range []struct {
		bytes string
		most  int
		want  api.Errno
	}{
		{"\x02ab", -1, api.ErrArg},
		{"\x02ab", math.MinInt, api.ErrArg},
		{"\x80", -1, api.ErrArg},
		{"", -1, api.ErrArg},
		{"\x80", 0, api.ErrBytes},
		{"\x02ab", 1, api.ErrLong},
		{"\x01a", 0, api.ErrLong},
		{"\x05a", 4, api.ErrLong},
		{"\x05a", 5, api.ErrBytes},
		{"\x02a", 2, api.ErrBytes},
		{"\x01", 1, api.ErrBytes},
		{"\xff\xff\xff\xff\xff\xff\xff\xff\x7f", math.MaxInt, api.ErrBytes},
		{"\x80\x80\x80\x80\x80\x80\x80\x80\x80\x01", math.MaxInt, api.ErrLong},
		{greatest + "abc", math.MaxInt, api.ErrLong},
	} {
		r := wire.Open([]byte(x.bytes))
		b, e := r.Bytes(x.most)
		wantStay(t, []byte(x.bytes), r, len(x.bytes), b == nil, e, x.want)
	}
}

// P1.3: what is read is new memory.
func TestReadBytesShareNothing(t *testing.T) {
	r := wire.Open([]byte("\x02ab\x02cd"))
	a, _ := r.Bytes(2)
	for i := range a[:cap(a)] {
		a[:cap(a)][i] = 0xff
	}
	if c, e := r.Bytes(2); string(c) != "cd" || e != api.OK {
		t.Errorf("behind writing into the first: %q, %v", c, e)
	}
}

// P1.4
func TestTake(t *testing.T) {
	r := wire.Open([]byte{2, 5, 0x80, 1, 9})
	l, e := wire.Take(r, 9, (*wire.Reader).Number)
	if !slices.Equal(l, []uint64{5, 128}) || e != api.OK || r.Left() != 1 {
		t.Errorf("numbers: %v, %v, left %d", l, e, r.Left())
	}
	for _, most := range []int{2, 3, math.MaxInt} {
		r := wire.Open([]byte{2, 1, 0})
		if l, e := wire.Take(r, most, (*wire.Reader).Flag); !slices.Equal(l, []bool{true, false}) || e != api.OK || r.End() != api.OK {
			t.Errorf("flags, most %d: %v, %v", most, l, e)
		}
	}
	for _, most := range []int{0, 1} {
		r := wire.Open([]byte{0, 1})
		if l, e := wire.Take(r, most, (*wire.Reader).Flag); len(l) != 0 || e != api.OK || r.Left() != 1 {
			t.Errorf("none, most %d: %v, %v, left %d", most, l, e, r.Left())
		}
	}
}

// P1.4: one is called just so many times, with this reader.
func TestTakeCallsOne(t *testing.T) {
	r := wire.Open([]byte{3, 8, 8})
	calls := 0
	one := func(s *wire.Reader) (int, api.Errno) {
		if s != r {
			t.Errorf("another reader")
		}
		calls++
		return calls, api.OK
	}
	l, e := wire.Take(r, 3, one)
	if !slices.Equal(l, []int{1, 2, 3}) || e != api.OK || calls != 3 || r.Left() != 2 {
		t.Errorf("%v, %v, %d calls, left %d", l, e, calls, r.Left())
	}
	wire.Take(wire.Open([]byte{4}), 3, one)
	wire.Take(wire.Open([]byte{4}), -1, one)
	wire.Take(wire.Open([]byte{0}), 3, one)
	wire.Take(wire.Open([]byte{0x80}), 3, one)
	if calls != 3 {
		t.Errorf("one was called %d times where there was nothing to read", calls-3)
	}
}

// P1.4
func TestTakeWrong(t *testing.T) {
	for _, x := range []struct {
		bytes string
		most  int
		want  api.Errno
	}{
		{"\x01\x05", -1, api.ErrArg},
		{"\x01\x05", math.MinInt, api.ErrArg},
		{"\x80", -1, api.ErrArg},
		{"\x80", 1, api.ErrBytes},
		{"\x01\x05", 0, api.ErrLong},
		{"\x03\x05\x05\x05", 2, api.ErrLong},
		{"\x03\x05", 2, api.ErrLong},
		{"\x03\x05\x05", 3, api.ErrBytes},
		{"\x02\x05\x80\x00", 2, api.ErrBytes},
		{"\xff\xff\xff\xff\xff\xff\xff\xff\x7f\x05", math.MaxInt, api.ErrBytes},
		{greatest + "\x05", math.MaxInt, api.ErrLong},
	} {
		r := wire.Open([]byte(x.bytes))
		l, e := wire.Take(r, x.most, (*wire.Reader).Number)
		wantStay(t, []byte(x.bytes), r, len(x.bytes), l == nil, e, x.want)
	}
}

// P1.4
func TestTakeWithoutFunction(t *testing.T) {
	r := wire.Open([]byte{1, 5})
	for _, most := range []int{1, 0, -1} {
		l, e := wire.Take[uint64](r, most, nil)
		wantStay(t, most, r, 2, l == nil, e, api.ErrNil)
	}
	l, e := wire.Take[uint64](nil, 1, nil)
	wantStay(t, "nil reader", nil, 0, l == nil, e, api.ErrNil)
}

// P1.4: the first error of one is answered, and all is as it was, however far one went.
func TestTakeEndsAtFirstError(t *testing.T) {
	r := wire.Open([]byte{9, 3, 1, 2, 3})
	r.Number()
	calls := 0
	l, e := wire.Take(r, 3, func(s *wire.Reader) (uint64, api.Errno) {
		calls++
		n, _ := s.Number()
		s.Number()
		if calls == 2 {
			return n, api.ErrType
		}
		return n, api.OK
	})
	wantStay(t, "Take", r, 4, l == nil, e, api.ErrType)
	if calls != 2 {
		t.Errorf("%d calls", calls)
	}
	if l, e := wire.Take(r, 3, (*wire.Reader).Number); !slices.Equal(l, []uint64{1, 2, 3}) || e != api.OK {
		t.Errorf("again: %v, %v", l, e)
	}
}

// P1.4: lists of lists, and the reader goes back to the outer one's beginning.
func TestTakeNested(t *testing.T) {
	inner := func(r *wire.Reader) ([]uint64, api.Errno) { return wire.Take(r, 2, (*wire.Reader).Number) }
	r := wire.Open([]byte{2, 2, 1, 2, 1, 3})
	l, e := wire.Take(r, 2, inner)
	if len(l) != 2 || !slices.Equal(l[0], []uint64{1, 2}) || !slices.Equal(l[1], []uint64{3}) || e != api.OK || r.End() != api.OK {
		t.Errorf("%v, %v", l, e)
	}
	r = wire.Open([]byte{2, 2, 1, 2, 3, 3, 3, 3})
	l, e = wire.Take(r, 2, inner)
	wantStay(t, "inner list too long", r, 8, l == nil, e, api.ErrLong)
}

// P1.4: things that are read share no memory with each other.
func TestTakeSharesNothing(t *testing.T) {
	r := wire.Open([]byte("\x02\x01a\x01b"))
	l, _ := wire.Take(r, 2, func(r *wire.Reader) ([]byte, api.Errno) { return r.Bytes(1) })
	for i := range l[0][:cap(l[0])] {
		l[0][:cap(l[0])][i] = 0xff
	}
	if !bytes.Equal(l[1], []byte("b")) {
		t.Errorf("the second is % x", l[1])
	}
}
