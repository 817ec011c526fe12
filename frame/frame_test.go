package frame_test

import (
	"bytes"
	"encoding/binary"
	"hash/crc32"
	"math"
	"testing"

	"estuary/api"
	"estuary/frame"
)

// plain is the frame of a kind and a body, made by the library; that they may be is not asked.
func plain(kind byte, body []byte) []byte {
	b := binary.BigEndian.AppendUint32([]byte{kind}, uint32(len(body)))
	sum := crc32.Checksum(append(bytes.Clone(b), body...), crc32.MakeTable(crc32.Castagnoli))
	return append(binary.BigEndian.AppendUint32(b, sum), body...)
}

// some is n bytes of all kinds.
func some(n int) []byte {
	b := make([]byte, n)
	s := uint32(n) + 1
	for i := range b {
		s = s*1664525 + 1013904223
		b[i] = byte(s >> 24)
	}
	return b
}

// roomy is these bytes with spare room behind them.
func roomy(b []byte) []byte { return append(make([]byte, 0, len(b)+8), b...) }

func join(l ...[]byte) []byte { return bytes.Join(l, nil) }

func sameFrames(a, b []api.Frame) bool {
	if len(a) != len(b) {
		return false
	}
	for i := range a {
		if a[i].Kind != b[i].Kind || !bytes.Equal(a[i].Body, b[i].Body) {
			return false
		}
	}
	return true
}

// front is as many bytes as a message can show.
func front(b []byte) []byte { return b[:min(len(b), 40)] }

func wantPut(t *testing.T, kind int, body []byte) {
	t.Helper()
	b, e := frame.Put(kind, body)
	if right := plain(byte(kind), body); e != api.OK || !bytes.Equal(b, right) {
		t.Errorf("Put(%d, %d bytes): % x, %v; want % x", kind, len(body), front(b), e, front(right))
	}
}

// P4.1, the chapter's examples: written out, with sums worked out bit by bit.
func TestPutExamples(t *testing.T) {
	for _, x := range []struct {
		kind int
		body []byte
		want []byte
	}{
		{0, nil, []byte{0, 0, 0, 0, 0, 0x45, 0x72, 0x76, 0x35}},
		{0, []byte{}, []byte{0, 0, 0, 0, 0, 0x45, 0x72, 0x76, 0x35}},
		{1, []byte("a"), []byte{1, 0, 0, 0, 1, 0x38, 0x15, 0x9f, 0x85, 'a'}},
	} {
		if b, e := frame.Put(x.kind, x.body); e != api.OK || !bytes.Equal(b, x.want) {
			t.Errorf("Put(%d, %q): % x, %v; want % x", x.kind, x.body, b, e, x.want)
		}
	}
}

// P4.1
func TestPut(t *testing.T) {
	for kind := range 256 {
		wantPut(t, kind, nil)
		wantPut(t, kind, []byte{byte(kind)})
	}
	for _, n := range []int{2, 8, 9, 10, 255, 256, 257, 65535, 65536, 65537, api.MaxBody - 1, api.MaxBody} {
		wantPut(t, 0, some(n))
		wantPut(t, 255, make([]byte, n))
	}
}

// P4.1
func TestPutRefuses(t *testing.T) {
	long := make([]byte, api.MaxBody+1)
	for _, kind := range []int{-1, 256, -256, 257, 512, 1 << 32, math.MinInt, math.MaxInt} {
		for _, body := range [][]byte{nil, []byte("a"), long} {
			if b, e := frame.Put(kind, body); e != api.ErrArg || b != nil {
				t.Errorf("Put(%d, %d bytes): % x, %v", kind, len(body), front(b), e)
			}
		}
	}
	for _, kind := range []int{0, 255} {
		if b, e := frame.Put(kind, long); e != api.ErrLong || b != nil {
			t.Errorf("Put(%d, %d bytes): % x, %v", kind, len(long), front(b), e)
		}
	}
}

// P4.1
func TestPutAll(t *testing.T) {
	for _, l := range [][]api.Frame{nil, {}, {{}}, {{}, {}, {}}, {{Kind: 255, Body: []byte{}}}, lists()[4], lists()[5]} {
		var right []byte
		for _, f := range l {
			right = append(right, plain(byte(f.Kind), f.Body)...)
		}
		if b, e := frame.PutAll(l...); e != api.OK || !bytes.Equal(b, right) {
			t.Errorf("PutAll(%v): % x, %v; want % x", l, front(b), e, front(right))
		}
	}
	if b, e := frame.PutAll(); e != api.OK || len(b) > 0 {
		t.Errorf("PutAll of none: % x, %v", b, e)
	}
}

// P4.1: a wrong kind is told ahead of a long body, in whatever order they stand.
func TestPutAllRefuses(t *testing.T) {
	good := api.Frame{Kind: 7, Body: []byte("abc")}
	long := api.Frame{Kind: 255, Body: make([]byte, api.MaxBody+1)}
	below, above := api.Frame{Kind: -1}, api.Frame{Kind: 256, Body: []byte("x")}
	for _, x := range []struct {
		l []api.Frame
		e api.Errno
	}{
		{[]api.Frame{below}, api.ErrArg},
		{[]api.Frame{good, above}, api.ErrArg},
		{[]api.Frame{below, good}, api.ErrArg},
		{[]api.Frame{good, above, good}, api.ErrArg},
		{[]api.Frame{long, below}, api.ErrArg},
		{[]api.Frame{above, long}, api.ErrArg},
		{[]api.Frame{good, long, good, below, good}, api.ErrArg},
		{[]api.Frame{{Kind: 256, Body: long.Body}}, api.ErrArg},
		{[]api.Frame{long}, api.ErrLong},
		{[]api.Frame{good, long}, api.ErrLong},
		{[]api.Frame{long, good}, api.ErrLong},
		{[]api.Frame{good, long, good}, api.ErrLong},
	} {
		if b, e := frame.PutAll(x.l...); e != x.e || b != nil {
			t.Errorf("PutAll of %d, kind %d first: % x, %v; want %v", len(x.l), x.l[0].Kind, front(b), e, x.e)
		}
	}
}

// P4.1: of all bodies, such as no frame has, too.
func TestSize(t *testing.T) {
	for _, n := range []int{0, 1, 3, 255, 256, api.MaxBody, api.MaxBody + 1} {
		if got := frame.Size(make([]byte, n)); got != 9+n {
			t.Errorf("Size of %d bytes: %d", n, got)
		}
	}
	if frame.Size(nil) != 9 || frame.Size(make([]byte, 0, 5)) != 9 {
		t.Errorf("Size of none: %d, %d", frame.Size(nil), frame.Size(make([]byte, 0, 5)))
	}
}
