package stamp_test

import (
	"math"
	"slices"
	"strings"
	"testing"

	"estuary/api"
	"estuary/stamp"
)

// sample is the stamp of the chapter's examples.
func sample() api.Stamp {
	return api.Stamp{Gen: 5, Name: nameOf(1, "main", 3), Index: 0}
}

func nameOf(repo int, label string, number int64) api.Name {
	return api.Name{Branch: api.Branch{Repo: repo, Label: label}, Number: number}
}

// Parts that may be, and parts that may not: the edges, and what is beside them, among them.
func goodRepos() []int { return []int{0, 1, 4, api.MaxRepos - 1} }
func badRepos() []int {
	return []int{-1, api.MaxRepos, -api.MaxRepos, 127, 128, 255, 256, 1 << 32, 1<<32 + 1, 1 << 56, math.MinInt, math.MaxInt}
}

func goodIndexes() []int { return []int{0, 1, 9, 10, api.MaxOps - 1} }
func badIndexes() []int {
	return []int{-1, api.MaxOps, -api.MaxOps, 127, 128, 255, 256, 1 << 32, 1<<32 + 1, math.MinInt, math.MaxInt}
}

func goodNumbers() []int64 {
	return []int64{1, 2, 9, 10, 127, 128, 255, 256, 1 << 31, 1 << 32, 1 << 56, api.MaxNumber - 1, api.MaxNumber}
}
func badNumbers() []int64 {
	return []int64{0, -1, -2, api.MaxNumber + 1, 2*api.MaxNumber - 1, -api.MaxNumber, math.MinInt64, math.MaxInt64}
}

func goodLabels() []string {
	return []string{"a", "aa", "ab", "b", "main", "mainz", strings.Repeat("m", api.MaxLabel), "z", strings.Repeat("z", api.MaxLabel)}
}
func badLabels() []string {
	return []string{"", "A", "main1", "ma.in", ".", "a.1", " a", "a ", "a\x00", "\x00", "\xff", "é", "a/b", "-", "`", "{", strings.Repeat("a", api.MaxLabel+1), strings.Repeat("a", 1<<16)}
}

// goodStamps is every stamp of some of these parts, in order.
func goodStamps() []api.Stamp {
	var l []api.Stamp
	numbers := []int64{1, 2, 255, 256, 1 << 40, api.MaxNumber}
	for _, gen := range numbers {
		for _, repo := range []int{0, 1, api.MaxRepos - 1} {
			for _, label := range []string{"a", "aa", "ab", "b", strings.Repeat("m", api.MaxLabel), "z"} {
				for _, number := range numbers {
					for _, index := range []int{0, api.MaxOps - 1} {
						l = append(l, api.Stamp{Gen: gen, Name: nameOf(repo, label, number), Index: index})
					}
				}
			}
		}
	}
	return l
}

// badBranches, badNames, badStamps: all but one part, or all but one of its parts, may be.
func badBranches() []api.Branch {
	l := []api.Branch{{}}
	for _, repo := range badRepos() {
		l = append(l, api.Branch{Repo: repo, Label: "main"}, api.Branch{Repo: repo})
	}
	for _, label := range badLabels() {
		l = append(l, api.Branch{Repo: 0, Label: label}, api.Branch{Repo: api.MaxRepos - 1, Label: label})
	}
	return l
}

func badNames() []api.Name {
	var l []api.Name
	for _, b := range badBranches() {
		l = append(l, api.Name{Branch: b, Number: 1}, api.Name{Branch: b, Number: api.MaxNumber}, api.Name{Branch: b})
	}
	for _, number := range badNumbers() {
		l = append(l, nameOf(1, "main", number))
	}
	return l
}

func badStamps() []api.Stamp {
	var l []api.Stamp
	for _, n := range badNames() {
		l = append(l, api.Stamp{Gen: 1, Name: n}, api.Stamp{Gen: api.MaxNumber, Name: n, Index: api.MaxOps - 1}, api.Stamp{Name: n})
	}
	for _, gen := range badNumbers() {
		l = append(l, api.Stamp{Gen: gen, Name: sample().Name})
	}
	for _, index := range badIndexes() {
		l = append(l, api.Stamp{Gen: 5, Name: sample().Name, Index: index})
	}
	return l
}

// P6.1
func TestMayBe(t *testing.T) {
	for _, repo := range goodRepos() {
		for _, label := range goodLabels() {
			if b := (api.Branch{Repo: repo, Label: label}); !stamp.Branch(b) {
				t.Errorf("Branch(%v) may not be", b)
			}
			for _, number := range goodNumbers() {
				if n := nameOf(repo, label, number); !stamp.Name(n) {
					t.Errorf("Name(%v) may not be", n)
				}
			}
		}
	}
	for _, gen := range goodNumbers() {
		for _, index := range goodIndexes() {
			if s := (api.Stamp{Gen: gen, Name: sample().Name, Index: index}); !stamp.Stamp(s) {
				t.Errorf("Stamp(%v) may not be", s)
			}
		}
	}
	for _, s := range goodStamps() {
		if !stamp.Stamp(s) || !stamp.Name(s.Name) || !stamp.Branch(s.Name.Branch) {
			t.Fatalf("%v may not be", s)
		}
	}
}

// P6.1
func TestMayNotBe(t *testing.T) {
	for _, b := range badBranches() {
		if stamp.Branch(b) {
			t.Errorf("Branch(%v) may be", b)
		}
	}
	for _, n := range badNames() {
		if stamp.Name(n) {
			t.Errorf("Name(%v) may be", n)
		}
	}
	for _, s := range badStamps() {
		if stamp.Stamp(s) {
			t.Errorf("Stamp(%v) may be", s)
		}
	}
}

// P6.1: every repository, every place, every length of a label, around the bounds.
func TestBounds(t *testing.T) {
	for i := -3; i < 3*api.MaxRepos; i++ {
		if got := stamp.Branch(api.Branch{Repo: i, Label: "a"}); got != (i >= 0 && i <= 7) {
			t.Errorf("Branch of the repository %d: %v", i, got)
		}
	}
	for i := -3; i < 3*api.MaxOps; i++ {
		if got := stamp.Stamp(api.Stamp{Gen: 1, Name: nameOf(0, "a", 1), Index: i}); got != (i >= 0 && i <= 63) {
			t.Errorf("Stamp of the place %d: %v", i, got)
		}
	}
	for i := range 3 * api.MaxLabel {
		if got := stamp.Branch(api.Branch{Label: strings.Repeat("q", i)}); got != (i >= 1 && i <= 12) {
			t.Errorf("Branch of a label of %d bytes: %v", i, got)
		}
	}
	for i := int64(-3); i <= 3; i++ {
		for _, at := range []int64{0, 1 << 62} {
			want := at+i >= 1 && at+i <= 1<<62
			if got := stamp.Name(nameOf(0, "a", at+i)); got != want {
				t.Errorf("Name of the number %d: %v", at+i, got)
			}
			if got := stamp.Stamp(api.Stamp{Gen: at + i, Name: nameOf(0, "a", 1)}); got != want {
				t.Errorf("Stamp of the Gen %d: %v", at+i, got)
			}
		}
	}
}

// What is handed in is not changed, spare room included, and what is answered is new (DOC.md, the rules).
func TestApart(t *testing.T) {
	room := []api.Name{nameOf(1, "a", 2), nameOf(0, "b", 1), nameOf(1, "a", 2), nameOf(0, "a", 1), nameOf(7, "z", 9)}
	was := slices.Clone(room)
	one := stamp.Sorted(room[:4]...)
	two := stamp.Sorted(room[:4]...)
	if !slices.Equal(room, was) {
		t.Errorf("Sorted changed what it was handed: %v", room)
	}
	for i := range one[:cap(one)] {
		one[:cap(one)][i] = nameOf(9, "spoilt", -1)
	}
	want := []api.Name{nameOf(0, "a", 1), nameOf(0, "b", 1), nameOf(1, "a", 2)}
	if !slices.Equal(two, want) || !slices.Equal(room, was) {
		t.Errorf("answers of Sorted share memory: %v; %v", two, room)
	}
	sorted := slices.Clone(want)
	for i := range stamp.Sorted(sorted...) {
		stamp.Sorted(sorted...)[i] = api.Name{}
	}
	if !slices.Equal(sorted, want) {
		t.Errorf("Sorted of a sorted list answers that list: %v", sorted)
	}
	form, _ := stamp.Put(sample())
	form = form[:cap(form)]
	for i := range form {
		form[i] = 0xEE
	}
	if again, e := stamp.Put(sample()); string(again) != "\x05\x01\x04main\x03\x00" || e != api.OK {
		t.Errorf("answers of Put share memory: % x", again)
	}
}
