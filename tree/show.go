package tree

import (
	"iter"
	"slices"
	"strings"

	"estuary/api"
	"estuary/journal"
	"estuary/pmap"
	"estuary/queue"
	"estuary/register"
	"estuary/tagset"
)

// Show is all lines.
func (t Tree) Show() []api.Line {
	var l []api.Line
	over(nil, t.things, func(path []string, key string, x Thing) bool {
		if x.Kind != api.Map {
			l = append(l, line(path, key, x))
		}
		return true
	})
	return l
}

// over goes over a map's things, each with its path and its key, and over what is within a map right behind it, until tell answers false. Things stand by kinds, and a map's kind is the last one: so this is the order of places.
func over(path []string, m pmap.Map[Thing], tell func([]string, string, Thing) bool) bool {
	for own, x := range m.All() {
		key := plain(own)
		if !tell(path, key, x) || !over(inner(path, key), x.Things, tell) {
			return false
		}
	}
	return true
}

// inner is the path with one key more, in memory of its own.
func inner(path []string, key string) []string { return append(slices.Clone(path), key) }

// line is what is shown of a thing.
func line(path []string, key string, x Thing) api.Line {
	return api.Line{Path: slices.Clone(path), Kind: x.Kind, Key: key, Number: x.Number, Texts: texts(x)}
}

// texts is what is shown of a thing's elements: as they may be, their layer does not refuse them.
func texts(x Thing) []string {
	var l []string
	switch x.Kind {
	case api.Set:
		l, _ = tagset.Texts(x.Elements)
	case api.Register:
		l, _ = register.Texts(x.Elements)
	case api.Queue:
		l, _ = queue.Texts(x.Elements)
	case api.Journal:
		l, _ = journal.Texts(x.Elements)
	}
	return l
}

// Line is a thing's.
func (t Tree) Line(path []string, kind api.Kind, key string) (api.Line, bool) {
	x, has := t.find(path, kind, key)
	if !has || kind == api.Map {
		return api.Line{}, false
	}
	return line(path, key, x), true
}

// Has tells whether such a thing is there.
func (t Tree) Has(path []string, kind api.Kind, key string) bool {
	_, has := t.find(path, kind, key)
	return has
}

// find is the thing at a place.
func (t Tree) find(path []string, kind api.Kind, key string) (Thing, bool) {
	return get(t.at(path), kind, key)
}

// at is the map to which a path leads; one without things, if it leads to none.
func (t Tree) at(path []string) pmap.Map[Thing] {
	m := t.things
	for _, key := range path {
		x, has := get(m, api.Map, key)
		if !has {
			return pmap.Map[Thing]{}
		}
		m = x.Things
	}
	return m
}

// get is a map's thing.
func get(m pmap.Map[Thing], kind api.Kind, key string) (Thing, bool) {
	own, _ := Key(kind, key) // the empty key, if it may not be: no thing has that
	return m.Get(own)
}

// Names goes over a map's things.
func (t Tree) Names(path []string) iter.Seq2[api.Kind, string] {
	m := t.at(path)
	return func(yield func(api.Kind, string) bool) {
		for own, x := range m.All() {
			if !yield(x.Kind, plain(own)) {
				return
			}
		}
	}
}

// Levels goes over the tree's maps, each with its number of nodes.
func (t Tree) Levels() iter.Seq2[string, int] {
	return func(yield func(string, int) bool) {
		if !yield("", t.things.Len()) {
			return
		}
		over(nil, t.things, func(path []string, key string, x Thing) bool {
			return x.Kind == api.Counter || yield(strings.Join(inner(path, key), "/"), x.Elements.Len()+x.Things.Len())
		})
	}
}
