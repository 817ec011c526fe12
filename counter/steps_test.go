package counter_test

import (
	"iter"
	"slices"
	"testing"

	"estuary/counter"
)

// wantSteps goes over all, and asks for each place of l with the sum of n and the steps up to there.
func wantSteps(t *testing.T, what string, steps iter.Seq2[int, int64], n int64, l []int64) {
	t.Helper()
	told := 0
	for i, now := range steps {
		if i != told || i >= len(l) || now != plain(append([]int64{n}, l[:i+1]...)) {
			t.Fatalf("%s: turn %d of %d tells %d, %d", what, told, len(l), i, now)
		}
		told++
	}
	if told != len(l) {
		t.Fatalf("%s: %d turns, not %d", what, told, len(l))
	}
}

// stepLists is lists that are short enough to go over them in many ways.
func stepLists() [][]int64 {
	return slices.DeleteFunc(lists(), func(l []int64) bool { return len(l) > 20 })
}

// P10.2, the chapter's example.
func TestStepsExample(t *testing.T) {
	var got []int64
	for i, n := range counter.Steps(1, 2, 3) {
		got = append(got, int64(i), n)
	}
	if !slices.Equal(got, []int64{0, 3, 1, 6}) {
		t.Errorf("Steps(1; 2, 3): %v", got)
	}
}

// P10.2: from any number on, also where it goes round on the way; as often as one likes.
func TestSteps(t *testing.T) {
	for _, n := range numbers() {
		for _, l := range stepLists() {
			steps := counter.Steps(n, l...)
			for range 3 {
				wantSteps(t, "all", steps, n, l)
			}
		}
	}
	wantSteps(t, "past the greatest", counter.Steps(greatest, 1, -1), greatest, []int64{1, -1})
	wantSteps(t, "past the least", counter.Steps(least, -1, 1), least, []int64{-1, 1})
}

// P10.2: no steps tell nothing.
func TestStepsOfNone(t *testing.T) {
	for _, steps := range []iter.Seq2[int, int64]{counter.Steps(7), counter.Steps(7, nil...), counter.Steps(7, []int64{}...)} {
		if steps == nil {
			t.Fatal("no function")
		}
		for i, n := range steps {
			t.Errorf("it tells %d, %d", i, n)
		}
	}
}

// P10.2: it may be left behind each turn, and begins anew the next time.
func TestStepsLeft(t *testing.T) {
	for _, l := range stepLists() {
		steps := counter.Steps(4, l...)
		for stop := range l {
			turns := 0
			steps(func(int, int64) bool {
				turns++
				return turns <= stop
			})
			if turns != stop+1 {
				t.Errorf("left behind turn %d of %d: %d turns", stop+1, len(l), turns)
			}
			wantSteps(t, "after it was left", steps, 4, l)
		}
	}
}

// P10.2: it may be gone through while it is being gone through.
func TestStepsWithin(t *testing.T) {
	for _, l := range stepLists() {
		steps := counter.Steps(-3, l...)
		turns := 0
		for i, now := range steps {
			wantSteps(t, "within itself", steps, -3, l)
			if i != turns || now != plain(append([]int64{-3}, l[:i+1]...)) {
				t.Fatalf("turn %d tells %d, %d", turns, i, now)
			}
			turns++
		}
	}
}

// P10.2: the list is as it is when Steps is called, whatever is done to it afterwards.
func TestStepsKeepNothing(t *testing.T) {
	want := []int64{2, 3, 5}
	l := append(make([]int64, 0, 8), want...)
	steps, short := counter.Steps(1, l...), counter.Steps(1, l[:2]...)
	l[0] = 100
	wantSteps(t, "changed ahead", steps, 1, want)
	turns := 0
	for i, now := range steps {
		for j := range l[:cap(l)] {
			l[:cap(l)][j]++
		}
		if i != turns || now != plain(append([]int64{1}, want[:i+1]...)) {
			t.Errorf("changed while gone through: turn %d tells %d, %d", turns, i, now)
		}
		turns++
	}
	wantSteps(t, "changed afterwards", steps, 1, want)
	wantSteps(t, "of its beginning", short, 1, want[:2])
}
