package crc_test

import (
	"bytes"
	"hash/crc32"
	"math"
	"testing"
	"time"

	"estuary/crc"
)

const (
	digits = 3808858755 // the sum of 123456789
	all    = math.MaxUint32
	// order: so many bytes 0 leave every sum as it is, for the polynomial is x + 1 and a primitive one of degree 31.
	order = 1<<31 - 1
)

// plain is the sum as the chapter's words tell it, bit by bit.
func plain(b []byte) uint32 {
	s := uint32(all)
	for _, v := range b {
		s ^= uint32(v)
		for range 8 {
			if s%2 == 1 {
				s = s/2 ^ 2197175160
			} else {
				s = s / 2
			}
		}
	}
	return s ^ all
}

// some is n bytes, others for each seed.
func some(n int, seed uint32) []byte {
	b := make([]byte, n)
	for i := range b {
		seed = seed*1664525 + 1013904223
		b[i] = byte(seed >> 24)
	}
	return b
}

// withSum is four bytes whose sum is that: each sum is that of just one four bytes.
func withSum(sum uint32) []byte {
	s := sum ^ all
	for range 32 {
		if s>>31 == 1 { // an odd one was halved: 2197175160 has the highest bit, and a half has not
			s = (s^2197175160)<<1 | 1
		} else {
			s <<= 1
		}
	}
	s ^= all
	return []byte{byte(s), byte(s >> 8), byte(s >> 16), byte(s >> 24)}
}

// edges are sums around which masks and shifts may go wrong.
func edges() []uint32 {
	l := []uint32{0, 7, 9, digits, all, all - 1, 2197175160}
	for i := range 32 {
		l = append(l, 1<<i)
	}
	return l
}

func want(t *testing.T, what any, got, right uint32) {
	t.Helper()
	if got != right {
		t.Errorf("%v: %d, want %d", what, got, right)
	}
}

// soon fails where a call has not ended by then.
func soon(t *testing.T, call func()) {
	t.Helper()
	done := make(chan int)
	go func() {
		call()
		close(done)
	}()
	select {
	case <-done:
	case <-time.After(20 * time.Second):
		t.Fatal("it does not end soon")
	}
}

// P2.1
func TestSumExamples(t *testing.T) {
	want(t, "none", crc.Sum(), 0)
	want(t, "123456789", crc.Sum([]byte("123456789")), digits)
	want(t, "a", crc.Sum([]byte("a")), 3251651376)
	want(t, "four bytes 0", crc.Sum(make([]byte, 4)), 1214729159)
	want(t, "no list", crc.Sum(nil...), 0)
	want(t, "nil", crc.Sum(nil), 0)
	want(t, "empty ones", crc.Sum([]byte{}, nil, []byte{}), 0)
}

// P2.1: against the chapter's words, and against the library's.
func TestSumOfOne(t *testing.T) {
	table := crc32.MakeTable(crc32.Castagnoli)
	for v := range 256 {
		b := []byte{byte(v)}
		want(t, b, crc.Sum(b), plain(b))
	}
	for n := range 300 {
		b := some(n, uint32(n))
		want(t, n, crc.Sum(b), plain(b))
		want(t, n, crc.Sum(b), crc32.Checksum(b, table))
	}
	long := some(1<<20+3, 1)
	want(t, "long", crc.Sum(long), crc32.Checksum(long, table))
	for _, v := range []byte{0, 1, 0x80, 0xff} {
		b := bytes.Repeat([]byte{v}, 1000)
		want(t, v, crc.Sum(b), plain(b))
	}
}

// P2.1: all pieces, in order, empty ones among them.
func TestSumOfSeveral(t *testing.T) {
	want(t, "two", crc.Sum([]byte("1"), []byte("23456789")), digits)
	want(t, "with empty ones", crc.Sum(nil, []byte("1234"), []byte{}, nil, []byte("5678"), []byte("9"), nil), digits)
	b := some(40, 5)
	var single [][]byte
	for i := range b {
		single = append(single, b[i:i+1])
	}
	want(t, "byte by byte", crc.Sum(single...), plain(b))
	if crc.Sum([]byte("23456789"), []byte("1")) == digits {
		t.Error("the order of pieces is not told")
	}
}

// P2.2
func TestMore(t *testing.T) {
	want(t, "example", crc.More(crc.Sum([]byte("12345")), []byte("6789")), digits)
	want(t, "behind none", crc.More(0, []byte("123456789")), digits)
	for _, sum := range edges() {
		want(t, sum, crc.More(sum, nil), sum)
		want(t, sum, crc.More(sum, []byte{}), sum)
		first := withSum(sum)
		want(t, "withSum", plain(first), sum)
		for n := range 20 {
			b := some(n, sum)
			want(t, sum, crc.More(sum, b), plain(append(bytes.Clone(first), b...)))
		}
	}
}

// P2.2
func TestZeros(t *testing.T) {
	want(t, "example", crc.Zeros(0, 4), 1214729159)
	for _, sum := range edges() {
		first := withSum(sum)
		for _, n := range []int{1, 2, 3, 4, 5, 7, 8, 9, 31, 32, 33, 255, 256, 1000} {
			want(t, n, crc.Zeros(sum, n), plain(append(bytes.Clone(first), make([]byte, n)...)))
		}
	}
	want(t, "many", crc.Zeros(digits, 1<<20+1), crc.More(digits, make([]byte, 1<<20+1)))
}

// P2.2: none, and fewer than none.
func TestZerosOfNone(t *testing.T) {
	soon(t, func() {
		want(t, "example", crc.Zeros(7, -1), 7)
		for _, sum := range edges() {
			for _, n := range []int{0, -1, -2, math.MinInt32, math.MinInt, math.MinInt + 1} {
				want(t, n, crc.Zeros(sum, n), sum)
			}
		}
	})
}

// P2.2: however great n is; n goes round by the order.
func TestZerosOfVeryMany(t *testing.T) {
	soon(t, func() {
		for _, sum := range edges() {
			for _, n := range []int{order, order - 1, order + 1, 1 << 31, 1 << 32, 1<<61 + 5, 1 << 62, math.MaxInt - 1, math.MaxInt} {
				few := n % order
				if few > 10 {
					want(t, n, crc.Zeros(crc.Zeros(sum, n), order-few), sum)
				} else {
					want(t, n, crc.Zeros(sum, n), crc.More(sum, make([]byte, few)))
				}
			}
		}
	})
	want(t, "the greatest number", crc.Zeros(digits, math.MaxInt), crc.More(digits, []byte{0}))
}

// P2.3
func TestJoin(t *testing.T) {
	want(t, "example", crc.Join(crc.Sum([]byte("1234")), crc.Sum([]byte("56789")), 5), digits)
	want(t, "nothing behind", crc.Join(9, 0, 0), 9)
	want(t, "nothing at all", crc.Join(0, 0, 0), 0)
	want(t, "behind nothing", crc.Join(0, digits, 9), digits)
	for _, a := range edges() {
		first := withSum(a)
		for _, b := range edges() {
			second := withSum(b)
			want(t, [2]uint32{a, b}, crc.Join(a, b, 4), plain(append(bytes.Clone(first), second...)))
		}
		for n := range 40 {
			b := some(n, a)
			want(t, n, crc.Join(a, plain(b), n), plain(append(bytes.Clone(first), b...)))
		}
	}
}

// P2.3: no bytes have the sum 0, and fewer than none are as none.
func TestJoinOfNone(t *testing.T) {
	soon(t, func() {
		for _, a := range edges() {
			for _, n := range []int{0, -1, -5, math.MinInt32, math.MinInt, math.MinInt + 1} {
				want(t, n, crc.Join(a, 0, n), a)
			}
		}
	})
}

// P2.3: where it is below 0 it is as 0, whatever the sums are.
func TestJoinBelowNone(t *testing.T) {
	soon(t, func() {
		for _, a := range edges() {
			for _, b := range edges() {
				for _, n := range []int{-1, math.MinInt} {
					want(t, n, crc.Join(a, b, n), crc.Join(a, b, 0))
				}
			}
		}
	})
}

// P2.3: however many come behind.
func TestJoinOfVeryMany(t *testing.T) {
	soon(t, func() {
		for _, a := range edges() {
			for _, n := range []int{order, 1 << 40, 1<<62 + 1, math.MaxInt} {
				want(t, n, crc.Join(a, crc.Zeros(0, n), n), crc.Zeros(a, n))
			}
			want(t, a, crc.Join(a, digits, math.MaxInt), crc.Join(a, digits, 1))
		}
	})
}

// P2.3
func TestHolds(t *testing.T) {
	for _, b := range [][]byte{nil, {}, {0}, {0, 0}, []byte("a"), []byte("123456789"), some(1000, 3), withSum(0), withSum(all)} {
		sum := plain(b)
		if !crc.Holds(b, sum) {
			t.Errorf("% x: %d is refused", b, sum)
		}
		for bit := range 32 {
			if crc.Holds(b, sum^1<<bit) {
				t.Errorf("% x: %d is taken", b, sum^1<<bit)
			}
		}
		for _, wrong := range []uint32{^sum, sum + 1, sum - 1, sum + 1<<16, sum << 8} {
			if wrong != sum && crc.Holds(b, wrong) {
				t.Errorf("% x: %d is taken", b, wrong)
			}
		}
	}
	if !crc.Holds([]byte("123456789"), digits) || crc.Holds([]byte("123456788"), digits) || crc.Holds([]byte("12345678"), digits) {
		t.Error("the example")
	}
	if crc.Holds(nil, all) || crc.Holds([]byte{0}, 0) {
		t.Error("a sum of nothing")
	}
}

// What is handed in is as it was, spare room included.
func TestArgumentsAreLeftAlone(t *testing.T) {
	room := []byte("123456789abcdef")
	was := string(room)
	b := room[:9]
	list := [][]byte{b[:3], nil, b[3:]}
	want(t, "list", crc.Sum(list...), digits)
	want(t, "again", crc.Sum(list...), digits)
	want(t, "More", crc.More(0, b), digits)
	if !crc.Holds(b, digits) || string(room) != was || len(list) != 3 || list[1] != nil || string(list[0]) != "123" {
		t.Errorf("it was changed: %s", room)
	}
}
