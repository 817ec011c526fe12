package pmap

import (
	"strings"

	"estuary/api"
)

// Node is a node of a map; no field of it changes once it is made, for other maps may have it too.
type Node[V any] struct {
	key         string
	value       V
	left, right *Node[V]
	height      int
	size        int // of the node and its sides: 0 just in one that this package did not make
}

// Make is the map of a new root.
func Make[V any](left *Node[V], key string, v V, right *Node[V]) (Map[V], api.Errno) {
	left, right = own(left), own(right)
	apart := left.Height() - right.Height()
	if !fits(left, key, right) || apart < -1 || apart > 1 {
		return Map[V]{}, api.ErrArg
	}
	return Map[V]{made(left, key, v, right)}, api.OK
}

// Key is a node's key.
func (n *Node[V]) Key() string {
	if n == nil {
		return ""
	}
	return n.key
}

// Value is its value.
func (n *Node[V]) Value() V {
	if n == nil {
		var none V
		return none
	}
	return n.value
}

// Left is its left one.
func (n *Node[V]) Left() *Node[V] {
	if n == nil {
		return nil
	}
	return n.left
}

// Right is its right one.
func (n *Node[V]) Right() *Node[V] {
	if n == nil {
		return nil
	}
	return n.right
}

// Height is its height.
func (n *Node[V]) Height() int {
	if n == nil {
		return 0
	}
	return n.height
}

// Len is how many it and its sides are.
func (n *Node[V]) Len() int {
	if n == nil {
		return 0
	}
	return n.size
}

// Map is the map whose root it is.
func (n *Node[V]) Map() Map[V] { return Map[V]{own(n)} }

// own is n, or none of a zero node: a caller may make one, and it is as if there were none.
func own[V any](n *Node[V]) *Node[V] {
	if n.Len() == 0 {
		return nil
	}
	return n
}

// seek goes down from n to the side that where tells (below 0 the left one, above 0 the right one), until it tells 0: the node, or none.
func seek[V any](n *Node[V], where func(*Node[V]) int) *Node[V] {
seeking:
	for n != nil {
		switch side := where(n); {
		case side < 0:
			n = n.left
		case side > 0:
			n = n.right
		default:
			break seeking
		}
	}
	return n
}

// find is the node of a key, at n or below it, or none.
func find[V any](n *Node[V], key string) *Node[V] {
	return seek(n, func(n *Node[V]) int { return strings.Compare(key, n.key) })
}

// end is the last node that is come to from n by going to one side, or none of none.
func end[V any](n *Node[V], side func(*Node[V]) *Node[V]) *Node[V] {
	for next := side(n); next != nil; next = side(n) {
		n = next
	}
	return n
}

// fits tells whether left's keys are all below the key, and right's all above.
func fits[V any](left *Node[V], key string, right *Node[V]) bool {
	last, first := end(left, (*Node[V]).Right), end(right, (*Node[V]).Left)
	return (last == nil || last.key < key) && (first == nil || key < first.key)
}

// made is a new node with these sides, whose heights differ by one at most.
func made[V any](left *Node[V], key string, v V, right *Node[V]) *Node[V] {
	return &Node[V]{
		key:    key,
		value:  v,
		left:   left,
		right:  right,
		height: 1 + max(left.Height(), right.Height()),
		size:   1 + left.Len() + right.Len(),
	}
}

// between is a new node with n's key and value, and other sides.
func (n *Node[V]) between(left, right *Node[V]) *Node[V] { return made(left, n.key, n.value, right) }
