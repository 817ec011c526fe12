package base_test

import (
	"slices"
	"strings"
	"testing"

	"estuary/api"
	"estuary/stamp"
)

func nameOf(repo int, label string, number int64) api.Name {
	return api.Name{Branch: api.Branch{Repo: repo, Label: label}, Number: number}
}

// names is the names of a text like "a1 b2 1.a3"; without a repository it is 0.
func names(t *testing.T, s string) []api.Name {
	t.Helper()
	var l []api.Name
	for _, word := range strings.Fields(s) {
		if !strings.Contains(word, ".") {
			word = "0." + word
		}
		at := 2 + strings.IndexAny(word[2:], "0123456789")
		n, e := stamp.ParseName(word[:at] + "." + word[at:])
		if e != api.OK {
			t.Fatalf("%q is no name: %v", word, e)
		}
		l = append(l, n)
	}
	return l
}

func name(t *testing.T, s string) api.Name {
	t.Helper()
	return names(t, s)[0]
}

// set is commits' names.
type set map[api.Name]bool

// plain is commits, with their ancestors; what is asked of them is worked out by the document's words, as long as it may take.
type plain struct {
	commits map[api.Name]api.Commit
	pasts   map[api.Name]set // each with itself
	depths  map[string]int
}

func newPlain() *plain {
	return &plain{map[api.Name]api.Commit{}, map[api.Name]set{}, map[string]int{}}
}

// with adds a commit, whose parents are there.
func (p *plain) with(c api.Commit) {
	p.commits[c.Name] = c
	past := set{c.Name: true}
	for _, parent := range c.Parents {
		for n := range p.pasts[parent] {
			past[n] = true
		}
	}
	p.pasts[c.Name] = past
}

// past is all ancestors of these, and themselves.
func (p *plain) past(l ...api.Name) set {
	s := set{}
	for _, n := range l {
		for other := range p.pasts[n] {
			s[other] = true
		}
	}
	return s
}

// heads is those of a set that are no ancestors of others of it, in the order of names.
func (p *plain) heads(s set) []api.Name {
	var l []api.Name
	for n := range s {
		isHead := true
		for other := range s {
			isHead = isHead && (other == n || !p.pasts[other][n])
		}
		if isHead {
			l = append(l, n)
		}
	}
	slices.SortFunc(l, stamp.CmpName)
	return l
}

func setOf(l ...api.Name) set {
	s := set{}
	for _, n := range l {
		s[n] = true
	}
	return s
}

// both is what is in both sets.
func both(a, b set) set {
	s := set{}
	for n := range a {
		if b[n] {
			s[n] = true
		}
	}
	return s
}

// common is the nearest common ancestors of two lists.
func (p *plain) common(a, b []api.Name) []api.Name {
	return p.heads(both(p.past(a...), p.past(b...)))
}

// parts is a list of heads without its last one, and the nearest common ancestors of these and that one.
func (p *plain) parts(heads []api.Name) (ahead, base []api.Name) {
	end := len(heads) - 1
	return heads[:end], p.common(heads[:end], heads[end:])
}

// depth is that of a list of heads, however deep.
func (p *plain) depth(heads []api.Name) int {
	if len(heads) < 2 {
		return 0
	}
	key := listText(heads)
	if _, is := p.depths[key]; !is {
		ahead, base := p.parts(heads)
		p.depths[key] = max(p.depth(ahead), 1+p.depth(base))
	}
	return p.depths[key]
}

// needs adds all lists of more than one that the state of a list of heads takes.
func (p *plain) needs(heads []api.Name, into map[string]bool) {
	key := listText(heads)
	if len(heads) < 2 || into[key] {
		return
	}
	into[key] = true
	ahead, base := p.parts(heads)
	p.needs(ahead, into)
	p.needs(base, into)
}

// listText is the texts of a list's names.
func listText(l []api.Name) string {
	var words []string
	for _, n := range l {
		s, _ := stamp.TextName(n)
		words = append(words, s)
	}
	return strings.Join(words, " ")
}
