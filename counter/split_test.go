package counter_test

import (
	"math"
	"math/big"
	"slices"
	"testing"

	"estuary/counter"
)

// splitPlainly is each number of parts, handed out one by one from the first part on until n is reached.
func splitPlainly(n int64, parts int) []int64 {
	share, left := new(big.Int).QuoRem(big.NewInt(n), big.NewInt(int64(parts)), new(big.Int))
	l := slices.Repeat([]int64{share.Int64()}, parts)
	for i := range new(big.Int).Abs(left).Int64() {
		l[i] += int64(left.Sign())
	}
	return l
}

func wantSplit(t *testing.T, n int64, parts int, right ...int64) {
	t.Helper()
	if l := counter.Split(n, parts); !slices.Equal(l, right) {
		t.Errorf("Split(%d, %d): %v, not %v", n, parts, l, right)
	}
}

// P10.2, the chapter's examples.
func TestSplitExamples(t *testing.T) {
	wantSplit(t, 7, 3, 3, 2, 2)
	wantSplit(t, -7, 3, -3, -2, -2)
	wantSplit(t, 1, 0)
}

// P10.2: numbers that divide evenly and that do not, above 0 and below, fewer than there are parts, and the ends.
func TestSplit(t *testing.T) {
	wantSplit(t, 6, 3, 2, 2, 2)
	wantSplit(t, -6, 3, -2, -2, -2)
	wantSplit(t, 8, 3, 3, 3, 2)
	wantSplit(t, -8, 3, -3, -3, -2)
	wantSplit(t, 2, 4, 1, 1, 0, 0)
	wantSplit(t, -2, 4, -1, -1, 0, 0)
	wantSplit(t, 0, 3, 0, 0, 0)
	wantSplit(t, greatest, 1, greatest)
	wantSplit(t, least, 1, least)
	wantSplit(t, greatest, 2, 1<<62, 1<<62-1)
	wantSplit(t, least, 2, -1<<62, -1<<62)
	wantSplit(t, least, 64, slices.Repeat([]int64{-1 << 57}, 64)...)
	wantSplit(t, greatest, 64, append(slices.Repeat([]int64{1 << 57}, 63), 1<<57-1)...)
	wantSplit(t, least+1, 64, append(slices.Repeat([]int64{-1 << 57}, 63), 1-1<<57)...)
	wantSplit(t, 0, 64, make([]int64, 64)...)
}

// P10.2, P10.3: each number of parts, of many numbers; the Sum is the number.
func TestSplitAll(t *testing.T) {
	l := append(numbers(), some(200, 3)...)
	for n := range int64(140) {
		l = append(l, n, -n)
	}
	for parts := 1; parts <= 64; parts++ {
		for _, n := range l {
			wantSplit(t, n, parts, splitPlainly(n, parts)...)
			want(t, "Sum of Split", counter.Sum(counter.Split(n, parts)...), n)
		}
	}
}

// P10.2: none into parts that may not be.
func TestSplitWrong(t *testing.T) {
	for _, parts := range []int{0, 65, 66, 128, 1 << 20, 1 << 32, 1<<32 + 1, math.MaxInt, math.MaxInt - 1, -1, -64, -1 << 32, math.MinInt, math.MinInt + 1} {
		for _, n := range append(numbers(), 7, -7, 64) {
			if l := counter.Split(n, parts); len(l) != 0 {
				t.Errorf("Split(%d, %d): %v", n, parts, l)
			}
		}
	}
}

// What Split answers is new, spare room included (DOC.md, the rules).
func TestSplitApart(t *testing.T) {
	for _, parts := range []int{1, 3, 64} {
		kept := counter.Split(-100, parts)
		again := counter.Split(-100, parts)
		again = again[:cap(again)]
		for i := range again {
			again[i] = 77
		}
		if !slices.Equal(kept, splitPlainly(-100, parts)) || !slices.Equal(counter.Split(-100, parts), kept) {
			t.Errorf("into %d: %v", parts, kept)
		}
	}
}
