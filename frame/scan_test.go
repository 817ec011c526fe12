package frame_test

import (
	"bytes"
	"encoding/binary"
	"testing"

	"estuary/api"
	"estuary/frame"
)

// lists are frames that may be.
func lists() [][]api.Frame {
	many := make([]api.Frame, 300)
	for i := range many {
		many[i] = api.Frame{Kind: i % 256, Body: some(i % 7)}
	}
	return [][]api.Frame{
		nil,
		{{}},
		{{Kind: 255}},
		{{Kind: 1, Body: []byte("a")}},
		{{Kind: 2, Body: []byte("xy")}, {Kind: 3}, {Kind: 255, Body: make([]byte, 9)}, {}, {Kind: 0, Body: some(40)}},
		many,
		{{Kind: 9, Body: plain(8, plain(7, []byte("within")))}, {Kind: 9, Body: []byte{0}}},
	}
}

// model is the frames of b and their places, how many bytes are good, and how b ends, word for word as the chapter has it: a frame is what plain makes.
func model(b []byte) (l []api.Frame, at []int, good int, end api.Errno) {
	for {
		rest := b[good:]
		whole, length := false, uint32(0)
		if len(rest) >= 9 {
			length = binary.BigEndian.Uint32(rest[1:])
			if length <= api.MaxBody && len(rest) >= 9+int(length) {
				whole = bytes.HasPrefix(rest, plain(rest[0], rest[9:9+length]))
			}
		}
		switch {
		case len(rest) == 0:
			return l, at, good, api.OK
		case whole:
			l, at = append(l, api.Frame{Kind: int(rest[0]), Body: rest[9 : 9+length]}), append(at, good)
			good += 9 + int(length)
		case len(rest) < 9, length <= api.MaxBody && len(rest) < 9+int(length):
			return l, at, good, api.ErrTorn
		default:
			return l, at, good, api.ErrBad
		}
	}
}

// holds: Scan, All and One say of b what the model says.
func holds(t *testing.T, b []byte) {
	t.Helper()
	l, at, good, end := model(b)
	got, n, e := frame.Scan(b)
	if !sameFrames(got, l) || n != good || e != end {
		t.Fatalf("Scan of %d bytes, % x: %d frames, %d, %v; want %d, %d, %v", len(b), front(b), len(got), n, e, len(l), good, end)
	}
	var told []api.Frame
	for n, f := range frame.All(b) {
		if len(told) >= len(l) || n != at[len(told)] {
			t.Fatalf("All of %d bytes, % x: frame %d is at %d; want %v", len(b), front(b), len(told), n, at)
		}
		told = append(told, f)
	}
	if !sameFrames(told, l) {
		t.Fatalf("All of %d bytes, % x: %d frames; want %d", len(b), front(b), len(told), len(l))
	}
	one, e := frame.One(b)
	if len(l) == 1 && end == api.OK {
		if e != api.OK || !sameFrames([]api.Frame{one}, l) {
			t.Fatalf("One of %d bytes, % x: %d, %d bytes, %v", len(b), front(b), one.Kind, len(one.Body), e)
		}
	} else if e != api.ErrBytes || one.Kind != 0 || one.Body != nil {
		t.Fatalf("One of %d bytes, % x: %d, %d bytes, %v; want ErrBytes", len(b), front(b), one.Kind, len(one.Body), e)
	}
}

// P4.2, the chapter's examples.
func TestScanExamples(t *testing.T) {
	a := plain(1, []byte("a"))
	for _, x := range []struct {
		b       []byte
		n, good int
		e       api.Errno
	}{
		{nil, 0, 0, api.OK},
		{[]byte{}, 0, 0, api.OK},
		{a, 1, 10, api.OK},
		{join(a, []byte{0, 0}), 1, 10, api.ErrTorn},
		{make([]byte, 9), 0, 0, api.ErrBad},
		{[]byte{1, 1, 0, 0, 1, 0, 0, 0, 0}, 0, 0, api.ErrBad},
		{join(a, a), 2, 20, api.OK},
	} {
		l, n, e := frame.Scan(x.b)
		if len(l) != x.n || n != x.good || e != x.e {
			t.Errorf("Scan of % x: %v, %d, %v; want %d, %d, %v", x.b, l, n, e, x.n, x.good, x.e)
		}
		holds(t, x.b)
	}
}

// P4.2, P4.3: several frames are told as they were put.
func TestPutAndTold(t *testing.T) {
	for i, l := range lists() {
		b, e := frame.PutAll(l...)
		if e != api.OK {
			t.Fatalf("list %d: %v", i, e)
		}
		got, n, e := frame.Scan(b)
		if !sameFrames(got, l) || n != len(b) || e != api.OK {
			t.Errorf("list %d: %d frames, %d, %v", i, len(got), n, e)
		}
		holds(t, b)
		for _, f := range l {
			one, e := frame.Put(f.Kind, f.Body)
			if e != api.OK {
				t.Fatal(e)
			}
			if back, e := frame.One(one); e != api.OK || !sameFrames([]api.Frame{back}, []api.Frame{f}) {
				t.Errorf("One of Put(%d, %d bytes): %d, %v", f.Kind, len(f.Body), back.Kind, e)
			}
		}
	}
}

// P4.2, P4.3: a beginning has the frames that are whole in it, and ends with OK or torn.
func TestCutAtEveryPlace(t *testing.T) {
	for i, l := range lists() {
		b, _ := frame.PutAll(l...)
		if i == 5 {
			b = b[:200]
		}
		for n := range len(b) + 1 {
			whole, good := 0, 0
			for whole < len(l) && good+frame.Size(l[whole].Body) <= n {
				good += frame.Size(l[whole].Body)
				whole++
			}
			end := api.ErrTorn
			if good == n {
				end = api.OK
			}
			got, gone, e := frame.Scan(b[:n])
			if !sameFrames(got, l[:whole]) || gone != good || e != end {
				t.Errorf("list %d cut at %d: %d frames, %d, %v; want %d, %d, %v", i, n, len(got), gone, e, whole, good, end)
			}
			holds(t, b[:n])
		}
	}
}

// P4.2, P4.3: with one bit other, at whatever place, a frame is none.
func TestOneBitOther(t *testing.T) {
	for _, n := range []int{0, 1, 2, 9, 40, 255, 256} {
		for _, kind := range []int{0, 1, 255} {
			b, _ := frame.Put(kind, some(n))
			for bit := range 8 * len(b) {
				b[bit/8] ^= 1 << (bit % 8)
				if f, e := frame.One(b); e != api.ErrBytes || f.Kind != 0 || f.Body != nil {
					t.Errorf("bit %d of the frame of %d, %d bytes: %v, %v", bit, kind, n, f, e)
				}
				holds(t, b)
				holds(t, join(plain(3, []byte("ahead")), b, plain(4, []byte("behind"))))
				b[bit/8] ^= 1 << (bit % 8)
			}
		}
	}
}

// P4.3: the longest body of which that is promised.
func TestOneBitOfManyOther(t *testing.T) {
	b, _ := frame.Put(200, some(1<<16))
	for bit := 0; bit < 8*len(b); bit += 1 + bit/72*509 {
		b[bit/8] ^= 1 << (bit % 8)
		if f, e := frame.One(b); e != api.ErrBytes || f.Kind != 0 || f.Body != nil {
			t.Errorf("bit %d: %d, %d bytes, %v", bit, f.Kind, len(f.Body), e)
		}
		b[bit/8] ^= 1 << (bit % 8)
	}
}

// P4.2: bytes behind a frame are told by Scan, and make One refuse it.
func TestBytesBehind(t *testing.T) {
	for _, n := range []int{0, 1, 30} {
		b := plain(5, some(n))
		for tail := range 24 {
			for _, v := range []byte{0, 1, 255} {
				holds(t, join(b, bytes.Repeat([]byte{v}, tail)))
			}
		}
		holds(t, join(b, b))
		holds(t, join(b, make([]byte, 9), b))
	}
}

// P4.2: what stands behind bad bytes is no frame of them, even if it is one by itself.
func TestFramesBehindBad(t *testing.T) {
	ahead := plain(1, []byte("a"))
	for bad := 9; bad < 20; bad++ {
		b := join(ahead, make([]byte, bad), plain(0, []byte("xyz")), plain(0, nil))
		if l, good, e := frame.Scan(b); len(l) != 1 || good != len(ahead) || e != api.ErrBad {
			t.Errorf("behind %d bytes 0: %v, %d, %v", bad, l, good, e)
		}
		holds(t, b)
		holds(t, b[len(ahead):])
	}
}

// saying is a header that says a length, with n bytes behind it; its sum is right, if it can be.
func saying(length uint32, n int) []byte {
	b := binary.BigEndian.AppendUint32([]byte{6}, length)
	body := make([]byte, n)
	if int(length) == n {
		return plain(6, body)
	}
	return join(b, []byte{1, 2, 3, 4}, body)
}

// P4.2: lengths at and above the greatest that may be.
func TestLengthsAtTheBound(t *testing.T) {
	ahead := plain(2, []byte("ab"))
	for _, x := range []struct {
		length uint32
		n      int
		whole  int
		end    api.Errno
	}{
		{api.MaxBody, 0, 0, api.ErrTorn},
		{api.MaxBody, 100, 0, api.ErrTorn},
		{api.MaxBody, api.MaxBody - 1, 0, api.ErrTorn},
		{api.MaxBody, api.MaxBody, 1, api.OK},
		{api.MaxBody, api.MaxBody + 1, 0, api.ErrBad},
		{api.MaxBody + 1, 0, 0, api.ErrBad},
		{api.MaxBody + 1, api.MaxBody, 0, api.ErrBad},
		{api.MaxBody + 1, api.MaxBody + 1, 0, api.ErrBad},
		{1 << 31, 0, 0, api.ErrBad},
		{1<<31 - 1, 0, 0, api.ErrBad},
		{1<<32 - 1, 0, 0, api.ErrBad},
		{1<<32 - 9, 0, 0, api.ErrBad},
		{1, 0, 0, api.ErrTorn},
		{1, 2, 0, api.ErrBad},
		{0, 1, 0, api.ErrBad},
	} {
		b := join(ahead, saying(x.length, x.n))
		l, good, e := frame.Scan(b)
		right := len(ahead)
		if x.whole == 1 {
			right = len(b)
		}
		if len(l) != 1+x.whole || good != right || e != x.end {
			t.Errorf("%d said, %d there: %d frames, %d, %v; want %d, %d, %v", x.length, x.n, len(l), good, e, 1+x.whole, right, x.end)
		}
		holds(t, b)
		holds(t, b[len(ahead):])
	}
}

// P4.2: fewer than nine bytes are torn, whatever length they say.
func TestFewBytes(t *testing.T) {
	for n := 1; n < 9; n++ {
		for _, v := range []byte{0, 1, 255} {
			b := bytes.Repeat([]byte{v}, n)
			if l, good, e := frame.Scan(b); len(l) != 0 || good != 0 || e != api.ErrTorn {
				t.Errorf("Scan of % x: %v, %d, %v", b, l, good, e)
			}
			holds(t, b)
		}
	}
}

// P4.2, P4.3: a body of MaxBody bytes, there and back.
func TestLongestBody(t *testing.T) {
	l := []api.Frame{{Kind: 255, Body: some(api.MaxBody)}, {Kind: 1, Body: []byte("z")}}
	b, e := frame.PutAll(l...)
	if e != api.OK {
		t.Fatal(e)
	}
	holds(t, b)
	holds(t, b[:9+api.MaxBody])
	holds(t, b[:8+api.MaxBody])
	if got, n, e := frame.Scan(b); !sameFrames(got, l) || n != len(b) || e != api.OK {
		t.Errorf("Scan: %d frames, %d, %v", len(got), n, e)
	}
	b[9+api.MaxBody/2] ^= 1
	holds(t, b)
}

// P4.2: All left behind each frame, and gone over again; two that go on within each other.
func TestAllLeftEarly(t *testing.T) {
	l := lists()[4]
	b, _ := frame.PutAll(l...)
	all := frame.All(b)
	for most := range len(l) + 2 {
		var got []api.Frame
		for _, f := range all {
			if len(got) == most {
				break
			}
			got = append(got, f)
		}
		if !sameFrames(got, l[:min(most, len(l))]) {
			t.Errorf("left behind %d: %v", most, got)
		}
	}
	outer := 0
	for at := range all {
		inner := 0
		for range all {
			inner++
		}
		if inner != len(l) {
			t.Errorf("within, at %d: %d", at, inner)
		}
		outer++
	}
	if outer != len(l) {
		t.Errorf("outer: %d", outer)
	}
}

// P4.2: All of nothing is there, and tells nothing.
func TestAllOfNothing(t *testing.T) {
	for _, b := range [][]byte{nil, {}, {1}, make([]byte, 9)} {
		all := frame.All(b)
		if all == nil {
			t.Fatalf("All of % x is nil", b)
		}
		for at, f := range all {
			t.Errorf("All of % x: %d, %v", b, at, f)
		}
	}
}
