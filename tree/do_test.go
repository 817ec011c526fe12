package tree_test

import (
	"fmt"
	"math"
	"slices"
	"strings"
	"testing"

	"estuary/api"
	"estuary/tree"
)

// deep is the path of so many keys.
func deep(n int) string { return strings.Join(slices.Repeat([]string{"m"}, n), "/") }

// wrongStamps is stamps that may not be.
func wrongStamps() []api.Stamp {
	return []api.Stamp{
		{}, stampOf(0, 0, "a", 1, 0), stampOf(-1, 0, "a", 1, 0), stampOf(api.MaxNumber+1, 0, "a", 1, 0), stampOf(math.MinInt64, 0, "a", 1, 0), stampOf(math.MaxInt64, 0, "a", 1, 0),
		stampOf(9, -1, "a", 1, 0), stampOf(9, api.MaxRepos, "a", 1, 0), stampOf(9, 0, "", 1, 0), stampOf(9, 0, "A", 1, 0), stampOf(9, 0, "aaaaaaaaaaaaa", 1, 0),
		stampOf(9, 0, "a", 0, 0), stampOf(9, 0, "a", -1, 0), stampOf(9, 0, "a", api.MaxNumber+1, 0), stampOf(9, 0, "a", 1, -1), stampOf(9, 0, "a", 1, api.MaxOps),
	}
}

// eachDo is an operation of each Do, at the keys c, s, r, q, j of the map at a path.
func eachDo(path string) []api.Op {
	return []api.Op{
		add(path, "c", 3), insert(path, "s", "x"), remove(path, "s", "x"), write(path, "r", "x"),
		push(path, "q", "x"), pop(path, "q"), appendOf(path, "j", "x"),
	}
}

// wantRefused: Do answers that error, and no tree.
func wantRefused(t *testing.T, m tree.Tree, o api.Op, s api.Stamp, want api.Errno) {
	t.Helper()
	if got, e := m.Do(o, s); e != want || !got.Same(tree.Tree{}) {
		t.Errorf("Do %+v at %v: %v, not %v; %d nodes", o, s, e, want, got.Len())
	}
}

// The chapter's examples.
func TestExamples(t *testing.T) {
	a := done(t, tree.Tree{}, 1, add("", "c", 3))
	if l := a.Show(); len(l) != 1 || !sameLine(l[0], api.Line{Kind: api.Counter, Key: "c", Number: 3}) {
		t.Error("one line:", l)
	}
	b := done(t, a, 2, push("m", "c", "x"))
	if l := b.Show(); len(l) != 2 || l[0].Kind != api.Counter || !sameLine(l[1], api.Line{Path: []string{"m"}, Kind: api.Queue, Key: "c", Texts: []string{"x"}}) {
		t.Error("two lines:", l)
	}
	var names []string
	for kind, key := range b.Names(nil) {
		names = append(names, fmt.Sprint(kind, key))
	}
	if !slices.Equal(names, []string{"1c", "6m"}) {
		t.Error("Names:", names)
	}
	wantRefused(t, a, api.Op{Kind: api.Counter, Key: "c", Do: api.DoInsert}, at(2), api.ErrType)
	wantRefused(t, a, add("", "", 1), at(2), api.ErrArg)
	base := done(t, tree.Tree{}, 1, insert("", "s", "x"))
	m, _ := tree.Merge(base, done(t, base, 2, remove("", "s", "x")), done(t, base, 3, insert("", "s", "y")))
	if l := m.Show(); len(l) != 1 || !slices.Equal(l[0].Texts, []string{"y"}) {
		t.Error("y alone:", l)
	}
	if n, _ := tree.Merge(b, b, b); !n.Same(b) {
		t.Error("Merge of one tree three times")
	}
}

// P15.1: which operations may be, and that Do refuses just those, whatever its stamp.
func TestCheck(t *testing.T) {
	long := strings.Repeat("x", api.MaxKey)
	paths := map[string]bool{"": true, "m": true, deep(api.MaxDepth): true, deep(api.MaxDepth + 1): false, "m//m": false, "m/\x1f": false, long: true, long + "x": false, "\xff": false}
	keys := map[string]bool{"k": true, "": false, "a/b": false, "\n": false, "\xff": false, long: true, long + "x": false}
	texts := map[string]bool{"": true, "x": true, strings.Repeat("\xff", api.MaxText): true, strings.Repeat("x", api.MaxText+1): false}
	m := done(t, tree.Tree{}, 1, add("", "k", 1))
	ofKind := [...]api.Kind{0, api.Counter, api.Set, api.Set, api.Register, api.Queue, api.Queue, api.Journal, 0}
	named := func(o api.Op) bool {
		noText := o.Do == api.DoAdd || o.Do == api.DoPop
		return (o.Do == api.DoAdd || o.Number == 0) && (!noText || o.Text == "")
	}
	check := func(o api.Op, may bool) {
		want := api.OK
		switch {
		case !may, o.Kind < api.Counter, o.Kind > api.Journal, ofKind[o.Do] == 0, !named(o):
			want = api.ErrArg
		case ofKind[o.Do] != o.Kind:
			want = api.ErrType
		}
		if e := tree.Check(o); e != want {
			t.Fatalf("Check %+v: %v, not %v", o, e, want)
		}
		if want != api.OK {
			wantRefused(t, m, o, at(2), want)
			wantRefused(t, tree.Tree{}, o, api.Stamp{}, want)
		} else if _, e := m.Do(o, at(2)); e != api.OK {
			t.Fatalf("Do %+v: %v", o, e)
		}
	}
	for path, mayPath := range paths {
		for key, mayKey := range keys {
			for text, mayText := range texts {
				for kind := api.Kind(0); kind <= api.Map+1; kind++ {
					for do := range api.DoAppend + 2 {
						for number := range int64(2) {
							o := api.Op{Path: pathOf(path), Kind: kind, Key: key, Do: do, Number: number, Text: text}
							check(o, mayPath && mayKey && mayText)
						}
					}
				}
			}
		}
	}
	for _, n := range []int{-1, math.MinInt, math.MaxInt, 257, 256 + int(api.DoAdd)} {
		for _, o := range []api.Op{{Kind: api.Kind(n), Key: "k", Do: api.DoAdd}, {Kind: api.Counter, Key: "k", Do: api.Do(n)}} {
			if e := tree.Check(o); e != api.ErrArg {
				t.Errorf("Check %+v: %v", o, e)
			}
			wantRefused(t, m, o, at(2), api.ErrArg)
		}
	}
}

// P15.1: a stamp that may not be, whether the operation needs one or not.
func TestWrongStamps(t *testing.T) {
	for _, path := range []string{"", "m", deep(api.MaxDepth)} {
		m := done(t, tree.Tree{}, 1, eachDo(path)...)
		for _, s := range wrongStamps() {
			for _, o := range eachDo(path) {
				wantRefused(t, m, o, s, api.ErrArg)
				wantRefused(t, tree.Tree{}, o, s, api.ErrArg)
			}
		}
	}
}

// P15.1: what brings an element to a register, a queue, a journal needs a stamp behind those of all its elements; of another thing's elements it need not be.
func TestStampsBehind(t *testing.T) {
	for _, path := range []string{"", "m", deep(api.MaxDepth)} {
		for _, o := range []api.Op{write(path, "k", "x"), push(path, "k", "x"), appendOf(path, "k", "x")} {
			five := stampOf(5, 1, "b", 5, 5)
			m, e := tree.Tree{}.Do(o, five)
			if e != api.OK {
				t.Fatal(o, e)
			}
			for _, s := range []api.Stamp{five, stampOf(4, 7, "z", 9, 9), stampOf(5, 0, "z", 9, 9), stampOf(5, 1, "a", 9, 9), stampOf(5, 1, "b", 4, 9), stampOf(5, 1, "b", 5, 4), at(1)} {
				wantRefused(t, m, o, s, api.ErrArg)
				other := o
				other.Key = "other"
				if _, e := m.Do(other, s); e != api.OK {
					t.Errorf("another thing's, %v: %v", s, e)
				}
			}
			for _, s := range []api.Stamp{stampOf(6, 0, "a", 1, 0), stampOf(5, 2, "a", 1, 0), stampOf(5, 1, "ba", 1, 0), stampOf(5, 1, "b", 6, 0), stampOf(5, 1, "b", 5, 6)} {
				if _, e := m.Do(o, s); e != api.OK {
					t.Errorf("behind, %v: %v", s, e)
				}
			}
		}
	}
}

// P15.1: what each Do makes of a thing that is not there, and of one that is; the thing and the maps on its path are there from then on.
func TestDo(t *testing.T) {
	for _, path := range []string{"", "m", "m/n", deep(api.MaxDepth)} {
		for _, l := range [][]api.Op{
			{add(path, "k", 5), add(path, "k", math.MaxInt64), add(path, "k", 0), add(path, "k", math.MinInt64)},
			{remove(path, "k", "x"), insert(path, "k", "y"), insert(path, "k", "x"), insert(path, "k", "y"), insert(path, "k", ""), remove(path, "k", "y"), remove(path, "k", "z"), remove(path, "k", "")},
			{write(path, "k", ""), write(path, "k", "x"), write(path, "k", "x")},
			{pop(path, "k"), push(path, "k", "x"), push(path, "k", "y"), pop(path, "k"), push(path, "k", "x"), pop(path, "k"), pop(path, "k"), pop(path, "k")},
			{appendOf(path, "k", "x"), appendOf(path, "k", ""), appendOf(path, "k", "x")},
		} {
			m, want := tree.Tree{}, plain{}
			for i, o := range l {
				was, before := m, want
				m, want = done(t, m, int64(i+1), o), want.behind(t, o, at(int64(i+1)))
				wantTree(t, "behind", m, want)
				wantTree(t, "ahead", was, before)
			}
		}
	}
}

// P15.1: one key under several kinds is several things; maps of one name at several places are several maps.
func TestOneKey(t *testing.T) {
	m, want := tree.Tree{}, plain{}
	gen := int64(0)
	for _, path := range []string{"", "k", "k/k", "k/k/k", "m/k", "m/k/m"} {
		for _, o := range eachDo(path) {
			o.Key = "k"
			gen++
			m, want = done(t, m, gen, o), want.behind(t, o, at(gen))
			wantTree(t, "one key", m, want)
		}
	}
}

// P15.1: an operation that takes nothing away and adds nothing leaves the very tree.
func TestDoNothing(t *testing.T) {
	for _, path := range []string{"", "m/n"} {
		m := done(t, tree.Tree{}, 1, add(path, "c", 3), insert(path, "s", "x"), pop(path, "q"))
		for _, o := range []api.Op{add(path, "c", 0), remove(path, "s", "y"), pop(path, "q")} {
			if n := done(t, m, 9, o); !n.Same(m) {
				t.Error("another tree behind", o)
			}
		}
	}
}

// wantAll holds DoAll against Do, one operation behind the other, with the stamps it must give.
func wantAll(t *testing.T, m tree.Tree, gen int64, name api.Name, ops ...api.Op) {
	t.Helper()
	want := m
	for i, o := range ops {
		next, e := want.Do(o, api.Stamp{Gen: gen, Name: name, Index: i})
		if e != api.OK {
			t.Fatal("Do", i, e)
		}
		want = next
	}
	got, n, e := m.DoAll(gen, name, ops...)
	if e != api.OK || n != len(ops) || !got.Alike(want) {
		t.Errorf("DoAll of %d: %v, %d; %v, not %v", len(ops), e, n, got.Show(), want.Show())
	}
}

// many is so many operations, of all Dos, at the root and within maps.
func many(n int) []api.Op {
	var l []api.Op
	for len(l) < n {
		l = append(l, eachDo(deep(len(l)%(api.MaxDepth+1)))...)
	}
	return l[:n]
}

// P15.1: DoAll of none, of some, of as many as may be.
func TestDoAll(t *testing.T) {
	m := done(t, tree.Tree{}, 1, many(20)...)
	for _, from := range []tree.Tree{{}, m} {
		for _, name := range []api.Name{nameOf(0, "a", 1), nameOf(7, "zzzzzzzzzzzz", api.MaxNumber)} {
			for _, gen := range []int64{30, api.MaxNumber} {
				for _, n := range []int{0, 1, 2, 7, 63, api.MaxOps} {
					wantAll(t, from, gen, name, many(n)...)
				}
			}
		}
	}
	wantAll(t, tree.Tree{}, 1, nameOf(0, "a", 1), many(api.MaxOps)...)
	if n, k, e := m.DoAll(5, nameOf(0, "a", 1)); e != api.OK || k != 0 || !n.Same(m) {
		t.Error("DoAll of none:", k, e)
	}
	// The stamps count each operation, also those that bring nothing.
	name := nameOf(3, "side", 9)
	got, _, _ := tree.Tree{}.DoAll(4, name, pop("", "q"), push("", "q", "x"), add("", "c", 1), push("", "q", "y"))
	want := plain{}
	for i, o := range []api.Op{pop("", "q"), push("", "q", "x"), add("", "c", 1), push("", "q", "y")} {
		want = want.behind(t, o, api.Stamp{Gen: 4, Name: name, Index: i})
	}
	wantTree(t, "DoAll", got, want)
}

// wantNone: DoAll answers an error and a place, and no tree.
func wantNone(t *testing.T, m tree.Tree, gen int64, name api.Name, ops []api.Op, place int, want api.Errno) {
	t.Helper()
	if got, n, e := m.DoAll(gen, name, ops...); e != want || n != place || !got.Same(tree.Tree{}) {
		t.Errorf("DoAll(%d, %v) of %d: %v at %d, not %v at %d; %d nodes", gen, name, len(ops), e, n, want, place, got.Len())
	}
}

// P15.1: what DoAll refuses ahead of any operation, and in which order.
func TestDoAllRefused(t *testing.T) {
	m := done(t, tree.Tree{}, 1, many(20)...)
	good := nameOf(0, "a", 1)
	tooMany := many(api.MaxOps + 1)
	wrong := append([]api.Op{{}}, many(api.MaxOps)...)
	for _, ops := range [][]api.Op{nil, many(1), many(api.MaxOps), tooMany, wrong, many(1000)} {
		for _, gen := range []int64{0, -1, math.MinInt64} {
			wantNone(t, m, gen, good, ops, 0, api.ErrArg)
		}
		for _, name := range []api.Name{{}, nameOf(-1, "a", 1), nameOf(api.MaxRepos, "a", 1), nameOf(0, "", 1), nameOf(0, "A", 1), nameOf(0, "aaaaaaaaaaaaa", 1), nameOf(0, "a", 0), nameOf(0, "a", -1), nameOf(0, "a", api.MaxNumber+1)} {
			wantNone(t, m, 30, name, ops, 0, api.ErrArg)
		}
	}
	for _, ops := range [][]api.Op{tooMany, wrong, many(1000)} {
		wantNone(t, m, 30, good, ops, 0, api.ErrLong)
		wantNone(t, tree.Tree{}, 1, good, ops, 0, api.ErrLong)
	}
	wantNone(t, m, api.MaxNumber+1, good, many(3), 0, api.ErrArg)
}

// P15.1: the first operation that may not be, wherever it stands: its place, its error, no tree.
func TestDoAllFirstWrong(t *testing.T) {
	m := done(t, tree.Tree{}, 1, push("", "q", "x"))
	late := done(t, tree.Tree{}, 50, push("", "q", "x"))
	good := nameOf(0, "a", 1)
	wrongs := map[api.Errno]api.Op{
		api.ErrArg:  add("", "", 1),
		api.ErrType: {Kind: api.Set, Key: "k", Do: api.DoAdd},
	}
	for _, n := range []int{1, 2, 9, api.MaxOps} {
		for _, place := range []int{0, n / 2, n - 1} {
			for e, wrong := range wrongs {
				ops := many(n)
				ops[place] = wrong
				wantNone(t, m, 30, good, ops, place, e)
				wantNone(t, tree.Tree{}, 1, good, ops, place, e)
				for other, too := range wrongs { // one that is wrong behind it changes nothing
					if place < n-1 && other != e {
						ops[n-1] = too
						wantNone(t, m, 30, good, ops, place, e)
					}
				}
			}
			ops := slices.Repeat([]api.Op{add("", "c", 1)}, n)
			ops[place] = push("", "q", "x")
			wantNone(t, late, 49, good, ops, place, api.ErrArg)
		}
	}
	wantTree(t, "the tree that was asked", m, plain{}.behind(t, push("", "q", "x"), at(1)))
}
