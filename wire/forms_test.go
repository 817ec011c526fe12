package wire_test

import (
	"bytes"
	"math"
	"testing"

	"estuary/api"
	"estuary/wire"
)

const greatest = "\xff\xff\xff\xff\xff\xff\xff\xff\xff\x01"

var numbers = []struct {
	n    uint64
	form string
}{
	{0, "\x00"},
	{1, "\x01"},
	{127, "\x7f"},
	{128, "\x80\x01"},
	{300, "\xac\x02"},
	{16383, "\xff\x7f"},
	{16384, "\x80\x80\x01"},
	{1<<56 - 1, "\xff\xff\xff\xff\xff\xff\xff\x7f"},
	{1 << 56, "\x80\x80\x80\x80\x80\x80\x80\x80\x01"},
	{1<<63 - 1, "\xff\xff\xff\xff\xff\xff\xff\xff\x7f"},
	{1 << 63, "\x80\x80\x80\x80\x80\x80\x80\x80\x80\x01"},
	{math.MaxUint64, greatest},
}

var signeds = []struct {
	n    int64
	form string
}{
	{0, "\x00"},
	{-1, "\x01"},
	{1, "\x02"},
	{-2, "\x03"},
	{63, "\x7e"},
	{-64, "\x7f"},
	{64, "\x80\x01"},
	{-65, "\x81\x01"},
	{math.MaxInt64, "\xfe\xff\xff\xff\xff\xff\xff\xff\xff\x01"},
	{math.MinInt64, greatest},
}

func wantForm(t *testing.T, what any, got []byte, want string) {
	t.Helper()
	if string(got) != want {
		t.Errorf("%v: % x, want % x", what, got, want)
	}
}

// P1.1
func TestFormsOfNumbers(t *testing.T) {
	for _, x := range numbers {
		wantForm(t, x.n, wire.Number(x.n), x.form)
	}
	for _, x := range signeds {
		wantForm(t, x.n, wire.Signed(x.n), x.form)
	}
}

// P1.1
func TestFormsOfFlagsAndBytes(t *testing.T) {
	wantForm(t, "false", wire.Flag(false), "\x00")
	wantForm(t, "true", wire.Flag(true), "\x01")
	wantForm(t, "nil bytes", wire.Bytes(nil), "\x00")
	wantForm(t, "no bytes", wire.Bytes([]byte{}), "\x00")
	wantForm(t, "ab", wire.Bytes([]byte("ab")), "\x02ab")
	long := bytes.Repeat([]byte{0xfe}, 128)
	wantForm(t, "128 bytes", wire.Bytes(long), "\x80\x01"+string(long))
}

// P1.1
func TestJoin(t *testing.T) {
	wantForm(t, "none", wire.Join(), "")
	wantForm(t, "of nothing", wire.Join(nil, []byte{}, nil), "")
	wantForm(t, "one", wire.Join([]byte("ab")), "ab")
	wantForm(t, "some", wire.Join([]byte("a"), nil, []byte("bc"), []byte{}, []byte("d")), "abcd")
}

func wantPut[T any](t *testing.T, l []T, form func(T) []byte, want string) {
	t.Helper()
	b, e := wire.Put(l, form)
	if string(b) != want || e != api.OK {
		t.Errorf("Put of %v: % x, %v, want % x", l, b, e, want)
	}
}

// P1.1
func TestPut(t *testing.T) {
	wantPut(t, nil, wire.Number, "\x00")
	wantPut(t, []uint64{}, wire.Number, "\x00")
	wantPut(t, []int64{1, -1, 300}, wire.Signed, "\x03\x02\x01\xd8\x04")
	wantPut(t, [][]byte{[]byte("a"), nil}, wire.Bytes, "\x02\x01a\x00")
	wantPut(t, []bool{true, false}, wire.Flag, "\x02\x01\x00")
	wantPut(t, make([]struct{}, 128), func(struct{}) []byte { return nil }, "\x80\x01")
}

// P1.1
func TestPutWithoutFunction(t *testing.T) {
	for _, l := range [][]uint64{nil, {1}} {
		if b, e := wire.Put(l, nil); e != api.ErrNil || b != nil {
			t.Errorf("Put of %v without a function: % x, %v", l, b, e)
		}
	}
}

// P1.1: a form may lay each thing into the same memory.
func TestPutOfOneBuffer(t *testing.T) {
	buffer := make([]byte, 1)
	form := func(v byte) []byte {
		buffer[0] = v
		return buffer
	}
	wantPut(t, []byte{7, 8, 9}, form, "\x03\x07\x08\x09")
}

func TestWritingLeavesArgumentsAlone(t *testing.T) {
	room := []byte("abcdefgh")
	first, second := room[:2], room[4:6]
	joined := wire.Join(first, second)
	form := wire.Bytes(first)
	list, _ := wire.Put([]int{0}, func(int) []byte { return first })
	if string(room) != "abcdefgh" {
		t.Errorf("the spare room was changed: %s", room)
	}
	for _, b := range [][]byte{joined, form, list} {
		clear(b[:cap(b)])
	}
	if string(room) != "abcdefgh" {
		t.Errorf("an answer shares memory with what was handed in: %s", room)
	}
	one := wire.Join(first)
	clear(one[:cap(one)])
	if string(room) != "abcdefgh" {
		t.Errorf("Join of one shares memory with it: %s", room)
	}
}

func TestAnswersShareNoMemory(t *testing.T) {
	for _, make := range []func() []byte{
		func() []byte { return wire.Flag(true) },
		func() []byte { return wire.Number(1) },
		func() []byte { return wire.Signed(-1) },
		func() []byte { return wire.Bytes(nil) },
	} {
		a, b := make(), make()
		was := string(b)
		for i := range a {
			a[i] = 0xaa
		}
		if string(b) != was || string(make()) != was {
			t.Errorf("two answers share memory: % x, was % x", b, was)
		}
	}
}
