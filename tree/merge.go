package tree

import (
	"estuary/api"
	"estuary/counter"
	"estuary/pmap"
	"estuary/walk"
)

// Merge runs three trees together.
func Merge(base, a, b Tree) (Tree, api.Tally) {
	var took api.Tally
	count := func(c api.Count) {
		took.New += c.Made
		took.Reads += c.Reads
	}
	var run func(base, a, b pmap.Map[Thing]) pmap.Map[Thing]
	rule := func(_ string, inBase, inA, inB api.Part[Thing]) (Thing, bool) {
		switch {
		case !inB.Has:
			return inA.Value, inA.Has
		case !inA.Has:
			return inB.Value, inB.Has
		}
		base, a, b := inBase.Value, inA.Value, inB.Value
		elements, c := walk.Elements(base.Elements, a.Elements, b.Elements)
		count(c)
		// What is none of the kind's is zero in all three, and so it is behind them.
		return Thing{
			Kind:     a.Kind,
			Number:   counter.Three(base.Number, a.Number, b.Number),
			Elements: elements,
			Things:   run(base.Things, a.Things, b.Things),
		}, true
	}
	run = func(base, a, b pmap.Map[Thing]) pmap.Map[Thing] {
		m, c, _ := walk.Run(base, a, b, rule)
		count(c)
		return m
	}
	m := Tree{run(ground(base, a, b), a.things, b.things)}
	took.Nodes = m.Len()
	return m, took
}

// ground is the base that the walk is handed: base without the things that a side lacks. Where base and one side are the same node the walk answers the other side unread, and what that one lacks would go with it; but a thing that just one side has is to stay. Of a base that is one side's own tree the other side is the answer, whatever it lacks.
func ground(base, a, b Tree) pmap.Map[Thing] {
	if base.Same(a) || base.Same(b) {
		return base.things
	}
	return within(within(base.things, a.things), b.things)
}

// within is m without the things that o lacks; m itself, if it lacks none.
func within(m, o pmap.Map[Thing]) pmap.Map[Thing] {
	if m.Same(o) {
		return m
	}
	for own, parts := range walk.Changes(m, o) {
		if parts[0].Has {
			m = m.Take(own)
		}
	}
	for own, x := range m.From(keyOf(api.Map, "")) {
		other, _ := o.Get(own)
		if less := within(x.Things, other.Things); !less.Same(x.Things) {
			x.Things = less
			m = m.Put(own, x)
		}
	}
	return m
}
