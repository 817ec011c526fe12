package tree_test

import (
	"slices"
	"testing"

	"estuary/api"
	"estuary/tree"
)

// roomy is a path with spare room, which tells when it is written to.
func roomy(keys ...string) []string {
	l := append(make([]string, 0, len(keys)+4), keys...)
	for i := range l[len(l):cap(l)] {
		l[len(l):cap(l)][i] = "spare"
	}
	return l
}

// whole is a list with its spare room, as it is now.
func whole(l []string) []string { return slices.Clone(l[:cap(l)]) }

// spoil changes a list and the spare room behind it.
func spoil(l []string) {
	l = l[:cap(l)]
	for i := range l {
		l[i] = "spoilt"
	}
}

// roomyOps is operations of all Dos, whose paths have spare room.
func roomyOps(keys ...string) []api.Op {
	l := eachDo("")
	for i := range l {
		l[i].Path = roomy(keys...)
	}
	return l
}

// What is handed in is not changed, spare room included, and not kept (DOC.md, the rules).
func TestOpsApart(t *testing.T) {
	for _, keys := range [][]string{nil, {"m"}, {"m", "n", "o"}} {
		ops := roomyOps(keys...)
		was := whole(ops[0].Path)
		m, want := tree.Tree{}, plain{}
		for i, o := range ops {
			m, want = done(t, m, int64(i+1), o), want.behind(t, o, at(int64(i+1)))
		}
		all, _, e := tree.Tree{}.DoAll(1, nameOf(0, "a", 1), ops...)
		lines := all.Show()
		for _, o := range ops {
			if e != api.OK || !slices.Equal(whole(o.Path), was) {
				t.Errorf("a path was changed: %q, not %q", whole(o.Path), was)
			}
			spoil(o.Path)
		}
		wantTree(t, "behind operations that were spoilt", m, want)
		if !slices.EqualFunc(all.Show(), lines, sameLine) {
			t.Error("DoAll keeps what it was handed:", all.Show())
		}
	}
}

// What asks is not changed and not kept either.
func TestPathsApart(t *testing.T) {
	m := done(t, tree.Tree{}, 1, eachDo("m/n")...)
	path := roomy("m", "n")
	was := whole(path)
	names := m.Names(path)
	line, _ := m.Line(path, api.Queue, "q")
	m.Has(path, api.Queue, "q")
	if !slices.Equal(whole(path), was) {
		t.Errorf("the path was changed: %q", whole(path))
	}
	spoil(path)
	n := 0
	for range names {
		n++
	}
	if n != 5 || !slices.Equal(line.Path, []string{"m", "n"}) {
		t.Errorf("the path is kept: %d names, %q", n, line.Path)
	}
	path = roomy("m", "n")
	line, _ = m.Line(path, api.Queue, "q")
	spoil(line.Path)
	if !slices.Equal(whole(path), was) {
		t.Errorf("the line has the path that was handed in: %q", whole(path))
	}
}

// An answer is new memory, that it shares with no other one, nor within itself.
func TestLinesApart(t *testing.T) {
	var m tree.Tree
	for i, path := range []string{"", "m", "m/n", "m/n/o", "m/p"} {
		m = done(t, m, int64(10*i+1), eachDo(path)...)
		m = done(t, m, int64(10*i+9), insert(path, "s", "y"))
	}
	want, lines := m.Show(), m.Show()
	for i := range lines {
		spoil(lines[i].Path)
		spoil(lines[i].Texts)
		for j := i + 1; j < len(lines); j++ {
			if !sameLine(lines[j], want[j]) {
				t.Fatalf("line %d has memory of line %d: %v", j, i, lines[j])
			}
		}
	}
	for i, l := range m.Show() {
		if !sameLine(l, want[i]) {
			t.Errorf("a spoilt answer changed the tree: %v", l)
		}
		one, _ := m.Line(l.Path, l.Kind, l.Key)
		spoil(one.Path)
		spoil(one.Texts)
		if again, _ := m.Line(want[i].Path, l.Kind, l.Key); !sameLine(again, want[i]) || !sameLine(l, want[i]) {
			t.Errorf("a spoilt line changed another one: %v, %v", again, l)
		}
	}
}
