package graph_test

import (
	"slices"
	"testing"

	"estuary/api"
)

// roomy is a list with spare room, which is filled so that it tells when it is written to.
func roomy[T any](spare T, l []T) []T {
	room := slices.Clone(l)
	for range 4 {
		room = append(room, spare)
	}
	return room[:len(l)]
}

// spoil changes a list and the spare room behind it.
func spoil[T any](l []T, with T) {
	l = l[:cap(l)]
	for i := range l {
		l[i] = with
	}
}

// roomyCommits is the example's commits with operations, all lists of which have spare room.
func roomyCommits(t *testing.T) plain {
	t.Helper()
	p := made(t, example)
	for i := range p {
		ops := opsOf(p[i].Name.Branch.Label)
		for j := range ops {
			ops[j].Path = roomy("spare", ops[j].Path)
		}
		p[i].Parents, p[i].Ops = roomy(nameOf(7, "spare", 7), p[i].Parents), roomy(api.Op{Key: "spare"}, ops)
	}
	return p
}

// spoilCommit changes all that a commit's lists lead to.
func spoilCommit(c api.Commit) {
	for _, o := range c.Ops {
		spoil(o.Path, "spoilt")
	}
	spoil(c.Ops, api.Op{Key: "spoilt"})
	spoil(c.Parents, nameOf(7, "spoilt", 7))
}

// wantRoom holds a commit, with the spare room of its lists, against another one.
func wantRoom(t *testing.T, what string, c, was api.Commit) {
	t.Helper()
	ops, before := c.Ops[:cap(c.Ops)], was.Ops[:cap(was.Ops)]
	same := slices.Equal(c.Parents[:cap(c.Parents)], was.Parents[:cap(was.Parents)]) && slices.EqualFunc(ops, before, sameOp)
	for i := range ops {
		same = same && slices.Equal(ops[i].Path[:cap(ops[i].Path)], before[i].Path[:cap(before[i].Path)])
	}
	if !same {
		t.Errorf("%s: %v was changed", what, c.Name)
	}
}

// A commit that is handed in is not changed, spare room included, and not kept.
func TestAddApart(t *testing.T) {
	p, was, want := roomyCommits(t), roomyCommits(t), roomyCommits(t)
	g := graphOf(t, p)
	for i, c := range p {
		if e := g.Add(c); e != api.OK {
			t.Error("Add again:", e)
		}
		wantRoom(t, "Add", c, was[i])
		spoilCommit(c)
	}
	wantGraph(t, "behind commits that were spoilt", g, want)
}

// What is told is the caller's own, also within itself, and within copies and what All goes over again.
func TestToldApart(t *testing.T) {
	want := roomyCommits(t)
	g := graphOf(t, roomyCommits(t))
	all, other := g.All(), g.Copy()
	for _, c := range want {
		one, _ := g.At(c.Name)
		two, _ := g.At(c.Name)
		spoilCommit(one)
		if !sameCommit(two, c) {
			t.Errorf("two answers have memory in common: %v", two)
		}
		for i := range two.Ops {
			spoil(two.Ops[i].Path, "spoilt")
			for j := i + 1; j < len(two.Ops); j++ {
				if !sameOp(two.Ops[j], c.Ops[j]) {
					t.Errorf("two paths of an answer have memory in common: %v", two.Ops[j])
				}
			}
		}
	}
	for range 2 {
		i := 0
		for c := range all {
			order := want.ancestors(want.all()...)
			if is, _ := want.find(order[i]); !sameCommit(c, is) {
				t.Errorf("All tells what was spoilt: %v", c)
			}
			spoilCommit(c)
			i++
		}
	}
	one, _ := other.At(name(t, "a3"))
	spoilCommit(one)
	wantGraph(t, "behind answers that were spoilt", g, want)
	wantGraph(t, "a copy, behind them", other, want)
}

// Lists that ask stay as they are; lists that answer are the caller's own.
func TestListsApart(t *testing.T) {
	p := made(t, example)
	g, spare := graphOf(t, p), nameOf(7, "spare", 7)
	for _, s := range []string{"b2 a3 a1 b2", "b1", "", "a3 b2", "a2 a1"} {
		a, b := roomy(spare, names(t, s)), roomy(spare, append(names(t, "b1 a2 b1"), nameOf(0, "none", 1)))
		c := roomy(spare, names(t, "b1 a2 b1"))
		lists := [][]api.Name{a, b, c}
		var was [][]api.Name
		for _, l := range lists {
			was = append(was, slices.Clone(l[:cap(l)]))
		}
		ask := func() [][]api.Name {
			g.Gen(a...)
			return [][]api.Name{first(g.Ancestors(a...)), first(g.Heads(a...)), first(g.Common(a, c)), first(g.Common(c, a)), first(g.Missing(a, b)), first(g.Missing(c, a))}
		}
		answers := ask()
		var want [][]api.Name
		for _, l := range answers {
			want = append(want, slices.Clone(l))
		}
		other := g.Copy()
		other.Keep(a...)
		for i, l := range lists {
			if !slices.Equal(l[:cap(l)], was[i]) {
				t.Errorf("a list was changed: %v, not %v", l[:cap(l)], was[i])
			}
			spoil(l, spare)
		}
		for i := range answers {
			if !slices.Equal(answers[i], want[i]) {
				t.Errorf("answer %d has memory of what asked", i)
			}
			spoil(answers[i], spare)
			for j := i + 1; j < len(answers); j++ {
				if !slices.Equal(answers[j], want[j]) {
					t.Errorf("answer %d has memory of answer %d", j, i)
				}
			}
		}
		wantGraph(t, "behind lists that were spoilt", g, p)
	}
}
