package stamp_test

import (
	"cmp"
	"math"
	"math/rand"
	"slices"
	"strings"
	"testing"

	"estuary/api"
	"estuary/stamp"
)

// inOrder asks that an order has these as they stand, and in no other way: so it is one (P6.5).
func inOrder[T any](t *testing.T, what string, l []T, order func(a, b T) int) {
	t.Helper()
	for i, a := range l {
		for j, b := range l {
			if got := order(a, b); got != cmp.Compare(i, j) {
				t.Fatalf("%s(%v, %v): %d; want %d", what, a, b, got, cmp.Compare(i, j))
			}
		}
	}
}

// anyBranches, anyNames, anyStamps: as they must stand; most of them may not be.
func anyBranches() []api.Branch {
	var l []api.Branch
	long := strings.Repeat("m", 3*api.MaxLabel)
	for _, repo := range []int{math.MinInt, -1, 0, 1, api.MaxRepos, math.MaxInt} {
		for _, label := range []string{"", "\x00", ".", "A", "a", "a\x00", "a.", "aa", "ab", "b", long, long + "\x00", long + "a", "z", "\x7f", "\xc3", "é", "\xff", "\xff\x00"} {
			l = append(l, api.Branch{Repo: repo, Label: label})
		}
	}
	return l
}

func anyNames() []api.Name {
	var l []api.Name
	for _, b := range anyBranches() {
		for _, number := range []int64{math.MinInt64, -1, 0, 1, api.MaxNumber, math.MaxInt64} {
			l = append(l, api.Name{Branch: b, Number: number})
		}
	}
	return l
}

func anyStamps() []api.Stamp {
	var l []api.Stamp
	for _, gen := range []int64{math.MinInt64, -1, 0, 1, api.MaxNumber + 1, math.MaxInt64} {
		for _, repo := range []int{math.MinInt, 0, 1, math.MaxInt} {
			for _, label := range []string{"", "\x00", "a", "ab", "b", "\xff"} {
				for _, number := range []int64{math.MinInt64, 0, 1, math.MaxInt64} {
					for _, index := range []int{math.MinInt, 0, 1, math.MaxInt} {
						l = append(l, api.Stamp{Gen: gen, Name: nameOf(repo, label, number), Index: index})
					}
				}
			}
		}
	}
	return l
}

// P6.1, the chapter's examples.
func TestOrderExamples(t *testing.T) {
	if got := stamp.CmpName(nameOf(0, "b", 9), nameOf(1, "a", 1)); got != -1 {
		t.Errorf("CmpName(0.b.9, 1.a.1): %d", got)
	}
	if got := stamp.Cmp(sample(), api.Stamp{Gen: 4, Name: nameOf(7, "z", 9), Index: 9}); got != 1 {
		t.Errorf("Cmp(5.1.main.3.0, 4.7.z.9.9): %d", got)
	}
	if got := stamp.CmpBranch(api.Branch{Repo: 2, Label: "a"}, api.Branch{Repo: 2, Label: "a"}); got != 0 {
		t.Errorf("CmpBranch of 2.a and itself: %d", got)
	}
}

// P6.1, P6.5: of any branches, names, stamps.
func TestOrders(t *testing.T) {
	inOrder(t, "CmpBranch", anyBranches(), stamp.CmpBranch)
	inOrder(t, "CmpName", anyNames(), stamp.CmpName)
	inOrder(t, "Cmp", anyStamps(), stamp.Cmp)
	inOrder(t, "Cmp", goodStamps(), stamp.Cmp)
}

// P6.1: one label is the same wherever its bytes lie.
func TestSameElsewhere(t *testing.T) {
	for _, s := range anyStamps() {
		other := s
		other.Name.Branch.Label = strings.Clone(s.Name.Branch.Label)
		if stamp.Cmp(s, other) != 0 || stamp.CmpName(s.Name, other.Name) != 0 || stamp.CmpBranch(s.Name.Branch, other.Name.Branch) != 0 {
			t.Errorf("%v is not the same as itself", s)
		}
	}
}

// P6.5: a stamp whose Gen is greater is behind, whatever the rest is.
func TestGreaterGen(t *testing.T) {
	for _, a := range anyStamps() {
		for _, b := range goodStamps()[:40] {
			a.Gen, b.Gen = 8, 9
			if stamp.Cmp(a, b) != -1 || stamp.Cmp(b, a) != 1 {
				t.Fatalf("%v is not behind %v", b, a)
			}
		}
	}
}

// P6.3
func TestSorted(t *testing.T) {
	one, two := nameOf(1, "a", 1), nameOf(1, "a", 2)
	if got := stamp.Sorted(two, one, two); !slices.Equal(got, []api.Name{one, two}) {
		t.Errorf("Sorted(1.a.2, 1.a.1, 1.a.2): %v", got)
	}
	if got := stamp.Sorted(); len(got) != 0 {
		t.Errorf("Sorted of no names: %v", got)
	}
	if got := stamp.Sorted([]api.Name{}...); len(got) != 0 {
		t.Errorf("Sorted of an empty list: %v", got)
	}
	if got := stamp.Sorted(api.Name{}); !slices.Equal(got, []api.Name{{}}) {
		t.Errorf("Sorted of a zero name: %v", got)
	}
	if got := stamp.Sorted(slices.Repeat([]api.Name{one}, 1000)...); !slices.Equal(got, []api.Name{one}) {
		t.Errorf("Sorted of one name a thousand times: %d names", len(got))
	}
}

// P6.3: of any names, however they are mixed, and however often each stands there.
func TestSortedMixed(t *testing.T) {
	dice := rand.New(rand.NewSource(6))
	all := anyNames()
	for range 300 {
		var want, mixed []api.Name
		for _, n := range all {
			times := max(0, dice.Intn(8)-4)
			if times > 0 {
				want = append(want, n)
				mixed = append(mixed, slices.Repeat([]api.Name{n}, times)...)
			}
		}
		dice.Shuffle(len(mixed), func(i, j int) { mixed[i], mixed[j] = mixed[j], mixed[i] })
		if got := stamp.Sorted(mixed...); !slices.Equal(got, want) {
			t.Fatalf("Sorted of %d names: %d, want %d, each once and in order", len(mixed), len(got), len(want))
		}
	}
}
