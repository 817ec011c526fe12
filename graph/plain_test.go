package graph_test

import (
	"math/rand"
	"slices"
	"strings"
	"testing"

	"estuary/api"
	"estuary/graph"
	"estuary/stamp"
)

func nameOf(repo int, label string, number int64) api.Name {
	return api.Name{Branch: api.Branch{Repo: repo, Label: label}, Number: number}
}

// names is the names of a text like "a1 b2 1.a3"; without a repository it is 0.
func names(t *testing.T, s string) []api.Name {
	t.Helper()
	var l []api.Name
	for _, word := range strings.Fields(s) {
		at := strings.IndexAny(word, "0123456789")
		if strings.Contains(word, ".") {
			at = 2 + strings.IndexAny(word[2:], "0123456789")
		} else {
			word, at = "0."+word, at+2
		}
		n, e := stamp.ParseName(word[:at] + "." + word[at:])
		if e != api.OK {
			t.Fatalf("%q is no name: %v", word, e)
		}
		l = append(l, n)
	}
	return l
}

func name(t *testing.T, s string) api.Name {
	t.Helper()
	return names(t, s)[0]
}

// plain is commits, each behind its parents; what is asked of them is worked out from the parents alone, by the chapter's words.
type plain []api.Commit

// made is the commits of a text like "a1; b1 a1; a2 a1 b1": a name, and its parents'.
func made(t *testing.T, s string) plain {
	t.Helper()
	var p plain
	for line := range strings.SplitSeq(s, ";") {
		if l := names(t, line); len(l) > 0 {
			p = p.with(l[0], l[1:]...)
		}
	}
	return p
}

// with is these and one more, with the generation that is its parents'.
func (p plain) with(n api.Name, parents ...api.Name) plain {
	return append(p, api.Commit{Name: n, Parents: parents, Gen: p.gen(parents)})
}

func (p plain) find(n api.Name) (api.Commit, bool) {
	i := slices.IndexFunc(p, func(c api.Commit) bool { return c.Name == n })
	if i < 0 {
		return api.Commit{}, false
	}
	return p[i], true
}

func (p plain) gen(parents []api.Name) int64 {
	most := int64(0)
	for _, n := range parents {
		c, _ := p.find(n)
		most = max(most, c.Gen)
	}
	return most + 1
}

// set is commits' names.
type set map[api.Name]bool

// past is all ancestors of these, and themselves.
func (p plain) past(l ...api.Name) set {
	s := set{}
	for _, n := range l {
		s[n] = true
	}
	for _, c := range slices.Backward(p) {
		for _, n := range c.Parents {
			s[n] = s[n] || s[c.Name]
		}
	}
	for n, has := range s {
		if _, is := p.find(n); !has || !is {
			delete(s, n)
		}
	}
	return s
}

// only is those of a set that may be told.
func (s set) only(may func(api.Name) bool) set {
	l := set{}
	for n := range s {
		if may(n) {
			l[n] = true
		}
	}
	return l
}

// heads is those of a set that are no ancestors of others of it, in the order of names.
func (p plain) heads(s set) []api.Name {
	var l []api.Name
	for n := range s {
		isHead := true
		for other := range s {
			isHead = isHead && (other == n || !p.past(other)[n])
		}
		if isHead {
			l = append(l, n)
		}
	}
	slices.SortFunc(l, stamp.CmpName)
	return l
}

// inOrder is the names of a set, by generations, of one by names.
func (p plain) inOrder(s set) []api.Name {
	var l []api.Name
	for n := range s {
		l = append(l, n)
	}
	slices.SortFunc(l, func(a, b api.Name) int {
		x, _ := p.find(a)
		y, _ := p.find(b)
		if x.Gen != y.Gen {
			return int(x.Gen - y.Gen)
		}
		return stamp.CmpName(a, b)
	})
	return l
}

func (p plain) ancestors(l ...api.Name) []api.Name { return p.inOrder(p.past(l...)) }

func (p plain) common(a, b []api.Name) []api.Name {
	of := p.past(b...)
	return p.heads(p.past(a...).only(func(n api.Name) bool { return of[n] }))
}

func (p plain) missing(want, have []api.Name) []api.Name {
	has := p.past(have...)
	return p.inOrder(p.past(want...).only(func(n api.Name) bool { return !has[n] }))
}

// all is the names of all commits.
func (p plain) all() []api.Name {
	var l []api.Name
	for _, c := range p {
		l = append(l, c.Name)
	}
	return l
}

// graphOf is a graph with these commits.
func graphOf(t *testing.T, p plain) *graph.Graph {
	t.Helper()
	g := graph.New()
	for _, c := range p {
		if e := g.Add(c); e != api.OK {
			t.Fatalf("Add of %v: %v", c, e)
		}
	}
	return g
}

func wantNames(t *testing.T, what string, got []api.Name, e api.Errno, want []api.Name) {
	t.Helper()
	if e != api.OK || !slices.Equal(got, want) {
		t.Fatalf("%s: %v, %v; want %v", what, got, e, want)
	}
}

func sameCommit(a, b api.Commit) bool {
	return a.Name == b.Name && a.Gen == b.Gen && slices.Equal(a.Parents, b.Parents) &&
		slices.EqualFunc(a.Ops, b.Ops, sameOp)
}

func sameOp(a, b api.Op) bool {
	return slices.Equal(a.Path, b.Path) && a.Kind == b.Kind && a.Key == b.Key && a.Do == b.Do && a.Number == b.Number && a.Text == b.Text
}

// wantGraph holds all that is told of a graph's commits against plain ones.
func wantGraph(t *testing.T, what string, g *graph.Graph, p plain) {
	t.Helper()
	if g.Len() != len(p) {
		t.Fatalf("%s: %d commits, not %d", what, g.Len(), len(p))
	}
	for _, c := range p {
		if got, e := g.At(c.Name); e != api.OK || !sameCommit(got, c) || !g.Has(c.Name) {
			t.Fatalf("%s: At of %v: %v, %v; want %v", what, c.Name, got, e, c)
		}
	}
	order := p.ancestors(p.all()...)
	i := 0
	for c := range g.All() {
		want, _ := p.find(order[i])
		if !sameCommit(c, want) {
			t.Fatalf("%s: All tells %v, not %v", what, c, want)
		}
		i++
	}
	if i != len(p) {
		t.Fatalf("%s: All tells %d commits, not %d", what, i, len(p))
	}
}

// shuffled is the same list in another order, some of it twice.
func shuffled(random *rand.Rand, l []api.Name) []api.Name {
	l = slices.Clone(l)
	for range random.Intn(3) {
		if len(l) > 0 {
			l = append(l, l[random.Intn(len(l))])
		}
	}
	random.Shuffle(len(l), func(i, j int) { l[i], l[j] = l[j], l[i] })
	return l
}

// grown is commits of some branches: a new one's parents are mostly late ones, so that branches cross often.
func grown(random *rand.Rand, n, branches int) plain {
	var p plain
	numbers := map[api.Branch]int64{}
	for len(p) < n {
		b := api.Branch{Repo: random.Intn(branches) % api.MaxRepos, Label: []string{"a", "ab", "b", "main"}[random.Intn(4)]}
		numbers[b] += 1 + int64(random.Intn(2))
		var parents []api.Name
		for range min(len(p), []int{0, 1, 2, 2, 2, 1, 2, 1}[random.Intn(8)]) {
			late := p[max(0, len(p)-1-random.Intn(2*branches))].Name
			if !slices.Contains(parents, late) {
				parents = append(parents, late)
			}
		}
		p = p.with(api.Name{Branch: b, Number: numbers[b]}, parents...)
	}
	return p
}

// pick is some commits' names.
func pick(random *rand.Rand, p plain) []api.Name {
	var l []api.Name
	for range random.Intn(4) {
		if len(p) > 0 {
			l = append(l, p[random.Intn(len(p))].Name)
		}
	}
	return l
}
