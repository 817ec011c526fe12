package counter_test

import (
	"math"
	"math/big"
	"slices"
	"testing"

	"estuary/counter"
)

const (
	greatest = math.MaxInt64
	least    = math.MinInt64
)

// numbers is ordinary ones and those around which sums go round.
func numbers() []int64 {
	return []int64{0, 1, -1, 3, -10, 1000, 1 << 32, -1 << 31, 1 << 62, -1 << 62, greatest, greatest - 1, least, least + 1}
}

// round is a whole number, however great, as it is where numbers go round.
func round(n *big.Int) int64 {
	low := new(big.Int).And(n, new(big.Int).SetUint64(math.MaxUint64))
	return int64(low.Uint64())
}

// plain is the sum of some numbers less those of others, without going round on the way.
func plain(more []int64, less ...int64) int64 {
	sum := new(big.Int)
	for _, n := range more {
		sum.Add(sum, big.NewInt(n))
	}
	for _, n := range less {
		sum.Sub(sum, big.NewInt(n))
	}
	return round(sum)
}

// some is n numbers, others for each seed, great ones and small ones.
func some(n int, seed uint64) []int64 {
	var l []int64
	for range n {
		seed = seed*6364136223846793005 + 1442695040888963407
		l = append(l, int64(seed)>>(seed>>58))
	}
	return l
}

// lists is lists of steps.
func lists() [][]int64 {
	l := [][]int64{nil, {}, {0}, {5}, {2, 3}, {-1, 1}, {greatest, 1}, {least, -1}, {greatest, greatest, 2}, {least, least}, {0, 0, 0}, numbers()}
	for n := range 40 {
		l = append(l, some(n, uint64(n)))
	}
	return append(l, some(5000, 7))
}

func want(t *testing.T, what any, got, right int64) {
	t.Helper()
	if got != right {
		t.Errorf("%v: %d, not %d", what, got, right)
	}
}

// P10.1, the chapter's examples.
func TestExamples(t *testing.T) {
	want(t, "Add", counter.Add(greatest, 1), least)
	want(t, "Sum", counter.Sum(), 0)
	want(t, "Delta", counter.Delta(5, 3), -2)
	want(t, "Three", counter.Three(10, 13, 9), 12)
	want(t, "Many", counter.Many(10, 13, 9, 10), 12)
}

// P10.1: two numbers, and where they go round.
func TestAddAndDelta(t *testing.T) {
	want(t, "2 and 3", counter.Add(2, 3), 5)
	want(t, "past the least", counter.Add(least, -1), greatest)
	want(t, "the least, twice", counter.Add(least, least), 0)
	want(t, "the greatest, twice", counter.Add(greatest, greatest), -2)
	want(t, "13 less 10", counter.Delta(10, 13), 3)
	want(t, "the greatest less the least", counter.Delta(least, greatest), -1)
	want(t, "the least less the greatest", counter.Delta(greatest, least), 1)
	want(t, "0 less the least", counter.Delta(least, 0), least)
	for _, n := range numbers() {
		for _, m := range numbers() {
			want(t, "Add", counter.Add(n, m), plain([]int64{n, m}))
			want(t, "Delta", counter.Delta(n, m), plain([]int64{m}, n))
			want(t, "Delta, and back", counter.Add(n, counter.Delta(n, m)), m)
		}
	}
}

// P10.1: of none, of one, of several, of many.
func TestSum(t *testing.T) {
	want(t, "no list", counter.Sum(nil...), 0)
	want(t, "1 2 3", counter.Sum(1, 2, 3), 6)
	want(t, "past the greatest", counter.Sum(greatest, 1), least)
	want(t, "past the least", counter.Sum(-1, least), greatest)
	want(t, "round, and back", counter.Sum(greatest, 1, -1), greatest)
	for _, n := range numbers() {
		want(t, "of one", counter.Sum(n), n)
	}
	for _, l := range lists() {
		want(t, len(l), counter.Sum(l...), plain(l))
		slices.Reverse(l)
		want(t, "the other way round", counter.Sum(l...), plain(l))
	}
}

// P10.1, P10.3: whatever the three are, either side first; and a side that did nothing.
func TestThree(t *testing.T) {
	want(t, "3 and 4 behind 0", counter.Three(0, 3, 4), 7)
	want(t, "past the greatest", counter.Three(0, greatest, 1), least)
	want(t, "past the least", counter.Three(1, least, 0), greatest)
	want(t, "both at the greatest", counter.Three(least, greatest, greatest), -2-least)
	for _, base := range numbers() {
		for _, a := range numbers() {
			for _, b := range numbers() {
				got := counter.Three(base, a, b)
				want(t, "Three", got, plain([]int64{a, b}, base))
				want(t, "the other one first", counter.Three(base, b, a), got)
				want(t, "Many of two", counter.Many(base, a, b), got)
			}
			want(t, "a alone did something", counter.Three(base, a, base), a)
			want(t, "b alone did something", counter.Three(base, base, a), a)
		}
	}
}

// P10.1: of none the base; of one that one; of more what each has beside the base.
func TestMany(t *testing.T) {
	want(t, "past the greatest", counter.Many(greatest-1, greatest, greatest), least)
	want(t, "past the least", counter.Many(least+1, least, least), greatest)
	for _, base := range numbers() {
		want(t, "of none", counter.Many(base), base)
		want(t, "no list", counter.Many(base, nil...), base)
		want(t, "of the base", counter.Many(base, base, base, base), base)
		for _, l := range lists() {
			want(t, "Many", counter.Many(base, l...), plain(append([]int64{base}, l...), slices.Repeat([]int64{base}, len(l))...))
		}
		for _, n := range numbers() {
			want(t, "of one", counter.Many(base, n), n)
		}
	}
}

// P10.3: lists of steps on one base, run together, are the base and all steps.
func TestManySteps(t *testing.T) {
	for _, base := range numbers() {
		var made []int64
		all := []int64{base}
		for _, l := range lists() {
			n := base
			for _, n = range counter.Steps(base, l...) {
			}
			made = append(made, n)
			all = append(all, l...)
			want(t, "Many", counter.Many(base, made...), plain(all))
			want(t, "Many, as Sum tells it", counter.Many(base, made...), counter.Sum(all...))
		}
		slices.Reverse(made)
		want(t, "the last one first", counter.Many(base, made...), plain(all))
	}
}

// DOC.md, examples 1 and 3: what branches add is shown once, also where they have crossed.
func TestCrossed(t *testing.T) {
	want(t, "3 and 4", counter.Three(0, 3, 4), 7)
	a, b := counter.Add(0, 1), counter.Add(0, 10)
	base := counter.Three(0, a, b)
	want(t, "the base of those that have crossed", base, 11)
	a, b = counter.Add(counter.Three(0, a, b), 100), counter.Add(counter.Three(0, b, a), 1000)
	want(t, "both", counter.Three(base, a, b), 1111)
}

// The lists that are handed in stay as they are, spare room included (DOC.md, the rules).
func TestApart(t *testing.T) {
	l := append(make([]int64, 0, 8), 1, 2, 3)
	for i := range l[3:8] {
		l[3:8][i] = 77
	}
	was := slices.Clone(l[:8])
	counter.Sum(l...)
	counter.Many(5, l...)
	for range counter.Steps(5, l...) {
	}
	if !slices.Equal(l[:8], was) {
		t.Errorf("changed: %v, not %v", l[:8], was)
	}
}
