package tree

import (
	"estuary/api"
	"estuary/journal"
	"estuary/keys"
	"estuary/pmap"
	"estuary/queue"
	"estuary/register"
	"estuary/tagset"
)

// nodes is a tree's nodes, each once, though several of its maps may have it.
type nodes struct {
	things   map[*pmap.Node[Thing]]struct{}
	elements map[*pmap.Node[string]]struct{}
}

// nodes gathers them.
func (t Tree) nodes() nodes {
	l := nodes{map[*pmap.Node[Thing]]struct{}{}, map[*pmap.Node[string]]struct{}{}}
	var within func(x Thing)
	within = func(x Thing) {
		gather(l.elements, x.Elements.Root(), func(string) {})
		gather(l.things, x.Things.Root(), within)
	}
	gather(l.things, t.things.Root(), within)
	return l
}

// gather puts n, those below it and what is within their values into a set; where n is there already, these are too.
func gather[V any](set map[*pmap.Node[V]]struct{}, n *pmap.Node[V], within func(V)) {
	if _, was := set[n]; was || n == nil {
		return
	}
	set[n] = struct{}{}
	gather(set, n.Left(), within)
	gather(set, n.Right(), within)
	within(n.Value())
}

// Len is how many nodes there are.
func (t Tree) Len() int {
	l := t.nodes()
	return len(l.things) + len(l.elements)
}

// Same tells whether both have the same root node.
func (t Tree) Same(o Tree) bool { return t.things.Same(o.things) }

// Shared is how many nodes both have.
func (t Tree) Shared(o Tree) int {
	l, in := t.nodes(), o.nodes()
	return common(l.things, in.things) + common(l.elements, in.elements)
}

// common is how many nodes two sets have both.
func common[V any](a, b map[*pmap.Node[V]]struct{}) int {
	sum := 0
	for n := range a {
		if _, has := b[n]; has {
			sum++
		}
	}
	return sum
}

// Alike tells whether both have the same things, with the same elements.
func (t Tree) Alike(o Tree) bool { return alike(t.things, o.things, alikeThings) }

func alikeThings(x, y Thing) bool {
	return x.Number == y.Number &&
		alike(x.Elements, y.Elements, func(x, y string) bool { return x == y }) &&
		alike(x.Things, y.Things, alikeThings)
}

// alike tells whether two maps have the same keys, and under each what is alike.
func alike[V any](a, b pmap.Map[V], values func(x, y V) bool) bool {
	if a.Same(b) {
		return true
	}
	if a.Len() != b.Len() {
		return false
	}
	for key, x := range a.All() {
		if y, has := b.Get(key); !has || !values(x, y) {
			return false
		}
	}
	return true
}

// Map is the tree's map.
func (t Tree) Map() pmap.Map[Thing] { return t.things }

// Of is the tree of a map.
func Of(m pmap.Map[Thing]) (Tree, api.Errno) {
	// One map may stand at many places, and a map that has it may too: it is asked again just where there is less room below it than where it was found to be right.
	enough := map[*pmap.Node[Thing]]int{}
	var may func(m pmap.Map[Thing], room int) bool
	may = func(m pmap.Map[Thing], room int) bool {
		if least, was := enough[m.Root()]; was && room >= least {
			return true
		}
		for own, x := range m.All() {
			if !mayStand(own, x) || x.Kind == api.Map && (room == 0 || !may(x.Things, room-1)) {
				return false
			}
		}
		enough[m.Root()] = room
		return true
	}
	if !may(m, api.MaxDepth) {
		return Tree{}, api.ErrArg
	}
	return Tree{m}, api.OK
}

// mayStand tells whether a thing may stand under a key of a map, whatever a map's own things are.
func mayStand(own string, x Thing) bool {
	if own == "" {
		return false
	}
	right, e := Key(x.Kind, plain(own))
	return e == api.OK && own == right &&
		(x.Kind == api.Counter || x.Number == 0) &&
		(x.Kind == api.Map || x.Things.Len() == 0) &&
		mayHave(x.Kind, x.Elements)
}

// mayHave tells whether these may be the elements of a thing of a kind: of one that has none, if there are none.
func mayHave(kind api.Kind, m pmap.Map[string]) bool {
	switch kind {
	case api.Set:
		return tagset.May(m)
	case api.Register:
		return register.May(m)
	case api.Queue:
		return queue.May(m)
	case api.Journal:
		return journal.May(m)
	}
	return m.Len() == 0
}

// Key is a thing's key.
func Key(kind api.Kind, key string) (string, api.Errno) {
	if !keys.Place(api.Place{Kind: kind, Key: key}) {
		return "", api.ErrArg
	}
	return keyOf(kind, key), api.OK
}

// keyOf is a thing's key, if it may be.
func keyOf(kind api.Kind, key string) string { return string([]byte{byte(kind)}) + key }

// plain is the key in a thing's key.
func plain(own string) string { return own[1:] }
