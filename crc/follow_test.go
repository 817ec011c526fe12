package crc_test

import (
	"bytes"
	"math/bits"
	"testing"

	"estuary/crc"
)

// P2.4: of every text cut in two, at every place.
func TestPiecesFollow(t *testing.T) {
	for n := range 70 {
		b := some(n, uint32(n)+9)
		whole := crc.Sum(b)
		for i := range n + 1 {
			first, second := b[:i], b[i:]
			want(t, "Sum of both", crc.Sum(first, second), whole)
			want(t, "More", crc.More(crc.Sum(first), second), whole)
			want(t, "Join", crc.Join(crc.Sum(first), crc.Sum(second), len(second)), whole)
			want(t, "Zeros", crc.Zeros(crc.Sum(first), len(second)), crc.Sum(first, make([]byte, len(second))))
		}
	}
}

// P2.4: long pieces, and pieces put together in either order of doing it.
func TestLongPiecesFollow(t *testing.T) {
	for _, n := range []int{1, 127, 4096, 1<<16 - 1, 1 << 16} {
		a, b, c := some(n+3, 1), some(n, 2), some(2*n+1, 3)
		whole := crc.Sum(a, b, c)
		x, y, z := crc.Sum(a), crc.Sum(b), crc.Sum(c)
		want(t, n, crc.Join(crc.Join(x, y, len(b)), z, len(c)), whole)
		want(t, n, crc.Join(x, crc.Join(y, z, len(c)), len(b)+len(c)), whole)
		want(t, n, crc.More(crc.More(x, b), c), whole)
		want(t, n, crc.Sum(bytes.Join([][]byte{a, b, c}, nil)), whole)
	}
}

// P2.4: three as long, xor-ed together.
func TestXorFollows(t *testing.T) {
	for _, n := range []int{0, 1, 2, 3, 4, 5, 8, 31, 32, 33, 100, 1000, 1 << 16} {
		a, b, c := some(n, 11), some(n, 12), some(n, 13)
		x := make([]byte, n)
		for i := range x {
			x[i] = a[i] ^ b[i] ^ c[i]
		}
		want(t, n, crc.Sum(x), crc.Sum(a)^crc.Sum(b)^crc.Sum(c))
	}
}

// wantTold: a text that differs by these bits (counted from its first byte's lowest one) has another sum, and is refused.
func wantTold(t *testing.T, b []byte, places ...int) {
	t.Helper()
	other := bytes.Clone(b)
	for _, p := range places {
		other[p/8] ^= 1 << (p % 8)
	}
	if sum := crc.Sum(b); crc.Sum(other) == sum || crc.Holds(other, sum) {
		t.Fatalf("%d bytes that differ in the bits %v have one sum", len(b), places)
	}
}

// P2.4: all ones, twos and threes of bits of short texts.
func TestFewBitsOfShortTexts(t *testing.T) {
	for _, n := range []int{1, 2, 3, 5, 9} {
		b := some(n, uint32(n))
		for i := range 8 * n {
			wantTold(t, b, i)
			for j := range i {
				wantTold(t, b, i, j)
				for k := range j {
					wantTold(t, b, i, j, k)
				}
			}
		}
	}
}

// P2.4: bits far apart in a text of 2^16 bytes.
func TestFewBitsOfLongText(t *testing.T) {
	const n = 1 << 16
	b := some(n, 77)
	last := 8*n - 1
	for _, l := range [][]int{{0}, {last}, {last / 2}, {0, 1}, {0, last}, {last - 1, last}, {0, 1, 2}, {0, last / 2, last}, {0, 1, last}, {31, 32, last - 32}} {
		wantTold(t, b, l...)
	}
	place := uint32(5)
	for range 60 {
		var l []int
		for range 3 {
			place = place*1664525 + 1013904223
			l = append(l, int(place>>13)) // 2^19 places
		}
		if l[0] != l[1] && l[0] != l[2] && l[1] != l[2] {
			wantTold(t, b, l...)
			wantTold(t, b, l[:2]...)
		}
	}
}

// differences: by how much the sum of a text of so many bytes differs with each bit of it, the last byte's lowest bit
// first. As sums of three xor-ed are the sum of the three xor-ed, several bits differ by their differences xor-ed.
func differences(n int) []uint32 {
	l := make([]uint32, 8*n)
	for bit := range 8 {
		sum, without := crc.Sum([]byte{1 << bit}), crc.Sum([]byte{0})
		for i := range n {
			l[8*i+bit] = sum ^ without
			sum, without = crc.More(sum, []byte{0}), crc.More(without, []byte{0})
		}
	}
	return l
}

// P2.4: every one, two and three bits of texts up to 2^16 bytes. No difference is 0; no two are the same; and each has
// an odd number of bits, so that three of them xor-ed have one too, and are not 0.
func TestFewBitsOfAllTexts(t *testing.T) {
	l := differences(1 << 16)
	seen := make(map[uint32]int, len(l))
	for i, d := range l {
		if before, is := seen[d]; is || d == 0 {
			t.Fatalf("bits %d and %d: the difference %d", before, i, d)
		}
		seen[d] = i
		if bits.OnesCount32(d)%2 == 0 {
			t.Fatalf("bit %d: the difference %d has an even number of bits", i, d)
		}
	}
}

// apart tells whether no differences xor-ed, some of them, are 0.
func apart(l []uint32) bool {
	var rows [32]uint32
	for _, d := range l {
		for d != 0 && rows[bits.Len32(d)-1] != 0 {
			d ^= rows[bits.Len32(d)-1]
		}
		if d == 0 {
			return false
		}
		rows[bits.Len32(d)-1] = d
	}
	return true
}

// P2.4: all that differ within 32 bits that follow each other, as the sum takes them: a byte's lowest one first.
func TestBitsThatFollow(t *testing.T) {
	back := differences(1 << 12)
	var l []uint32
	for i := len(back) - 8; i >= 0; i -= 8 {
		l = append(l, back[i:i+8]...)
	}
	for i := range len(l) - 31 {
		if !apart(l[i : i+32]) {
			t.Fatalf("within 32 bits from bit %d on", i)
		}
	}
	if apart(l[:33]) {
		t.Fatal("33 differences of 32 bits cannot be apart")
	}
}

// P2.4
func TestWordsThatFollow(t *testing.T) {
	b := some(40, 4)
	sum := crc.Sum(b)
	for at := range 8*len(b) - 31 {
		for _, seed := range []uint32{1, 2, 3, 0x80000001, 2197175160, all} {
			other := bytes.Clone(b)
			for bit := range 32 {
				p := at + bit
				other[p/8] ^= byte(seed>>bit&1) << (p % 8)
			}
			if crc.Sum(other) == sum || crc.Holds(other, sum) {
				t.Fatalf("from bit %d on, %d: one sum", at, seed)
			}
		}
	}
}
