package graph

import (
	"slices"

	"estuary/api"
	"estuary/stamp"
)

// mark says from which lists one comes down to a commit, and whether it is asked for no more.
type mark int

const (
	first  mark = 1 << iota // one comes from the first list
	second                  // one comes from the second list
	hidden                  // neither it is asked for, nor any of its ancestors
)

// handed is what a commit's parents have of its mark: what both lists lead to hides its ancestors.
func (m mark) handed() mark {
	if both := first | second; m&both == both {
		return m | hidden
	}
	return m
}

func (m mark) shown() bool { return m&hidden == 0 }

// search goes from lists of commits down to their ancestors.
type search struct {
	commits map[api.Name]api.Commit
	marks   map[api.Name]mark
	rows    map[int64][]api.Name // the commits that have a mark, by their generations
	top     int64                // the greatest of these
	open    int                  // how many of those that are still to come are not hidden
}

func (g *Graph) search() *search {
	return &search{commits: g.commits, marks: map[api.Name]mark{}, rows: map[int64][]api.Name{}}
}

// lay lays a mark on commits, beside those that they have.
func (s *search) lay(m mark, l []api.Name) {
	for _, n := range l {
		was, has := s.marks[n]
		if !has {
			gen := s.commits[n].Gen
			s.rows[gen] = append(s.rows[gen], n)
			s.top = max(s.top, gen)
		}
		if has && was.shown() {
			s.open--
		}
		s.marks[n] = was | m
		if s.marks[n].shown() {
			s.open++
		}
	}
}

// down has each commit hand its mark to its parents, the greatest generations first: then all that lead to it have handed theirs to it when its turn comes. What is below hidden ones alone is not gone through.
func (s *search) down() {
going:
	for gen := s.top; gen > 0; gen-- {
		for _, n := range s.rows[gen] {
			if s.open == 0 {
				break going
			}
			m := s.marks[n]
			if m.shown() {
				s.open--
			}
			s.lay(m.handed(), s.commits[n].Parents)
		}
	}
}

// told is the commits that have just this mark, by generations, of one by names.
func (s *search) told(m mark) []api.Name {
	var l []api.Commit
	for n, has := range s.marks {
		if has == m {
			l = append(l, s.commits[n])
		}
	}
	slices.SortFunc(l, cmpCommit)
	var names []api.Name
	for _, c := range l {
		names = append(names, c.Name)
	}
	return names
}

// Is tells whether a is an ancestor of the other one, or itself.
func (g *Graph) Is(a, of api.Name) (bool, api.Errno) {
	heads, e := g.Heads(a, of)
	return e == api.OK && (a == of || !slices.Contains(heads, a)), e
}

// Ancestors is all ancestors of these, and themselves, by generations, of one by names.
func (g *Graph) Ancestors(n ...api.Name) ([]api.Name, api.Errno) { return g.Missing(n, nil) }

// Heads is those that are no ancestors of others of them, in the order of names.
func (g *Graph) Heads(n ...api.Name) ([]api.Name, api.Errno) { return g.Common(n, n) }

// Common is the nearest common ancestors of two lists, in the order of names.
func (g *Graph) Common(a, b []api.Name) ([]api.Name, api.Errno) {
	if e := g.check(slices.Concat(a, b)); e != api.OK {
		return nil, e
	}
	s := g.search()
	s.lay(first, a)
	s.lay(second, b)
	s.down()
	return stamp.Sorted(s.told(first | second)...), api.OK
}

// Missing is what want has, with its ancestors, and have, with its own, has not: by generations, of one by names. What is not there of have is left out.
func (g *Graph) Missing(want, have []api.Name) ([]api.Name, api.Errno) {
	if e := g.check(want); e != api.OK {
		return nil, e
	}
	lacking := func(n api.Name) bool { return !g.Has(n) }
	s := g.search()
	s.lay(first, want)
	s.lay(hidden, slices.DeleteFunc(slices.Clone(have), lacking))
	s.down()
	return s.told(first), api.OK
}
