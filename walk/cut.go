package walk

import (
	"estuary/api"
	"estuary/pmap"
)

// cut is a map that was split at a key, and what it has there.
type cut[V any] struct {
	left, right pmap.Map[V]
	part        api.Part[V]
}

// cutAt splits a map at a key; at its root's key the sides are that node's own, so that what is the same node below it can still be told.
func cutAt[V any](m pmap.Map[V], key string) cut[V] {
	left, v, has, right := m.Split(key)
	return cut[V]{left, right, api.Part[V]{Value: v, Has: has}}
}

// top is the key of a's root, or of b's, if a has no keys.
func top[V any](a, b pmap.Map[V]) string {
	if a.Root() == nil {
		a = b
	}
	return a.Root().Key()
}

// joined is both sides with a key between them; as they were split at it, they can't be refused.
func joined[V any](left pmap.Map[V], key string, v V, right pmap.Map[V]) pmap.Map[V] {
	m, _ := pmap.Join(left, key, v, right)
	return m
}

// closed is both sides without a key between them.
func closed[V any](left, right pmap.Map[V]) pmap.Map[V] {
	key, v, has := right.First()
	if !has {
		return left
	}
	return joined(left, key, v, right.Take(key))
}

// made is how many nodes of m are none of the maps it was made of; a node of one of them has just nodes of it below, which are not read.
func made[V any](m pmap.Map[V], of ...pmap.Map[V]) int {
	var count func(n *pmap.Node[V]) int
	count = func(n *pmap.Node[V]) int {
		if n == nil {
			return 0
		}
		for _, o := range of {
			if stands(n, o) {
				return 0
			}
		}
		return count(n.Left()) + 1 + count(n.Right())
	}
	return count(m.Root())
}

// stands tells whether n is one of m's nodes.
func stands[V any](n *pmap.Node[V], m pmap.Map[V]) bool {
	at := m.Root()
	for at != nil && at.Key() != n.Key() {
		if n.Key() < at.Key() {
			at = at.Left()
		} else {
			at = at.Right()
		}
	}
	return at == n
}
