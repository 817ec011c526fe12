package pmap

import (
	"strings"

	"estuary/api"
)

// Put is the map in which a key has a value.
func (m Map[V]) Put(key string, v V) Map[V] { return Map[V]{put(m.root, key, v)} }

func put[V any](n *Node[V], key string, v V) *Node[V] {
	if n == nil {
		return made(nil, key, v, nil)
	}
	switch side := strings.Compare(key, n.key); {
	case side < 0:
		return n.joining(put(n.left, key, v), n.right)
	case side > 0:
		return n.joining(n.left, put(n.right, key, v))
	}
	return made(n.left, key, v, n.right)
}

// Take is the map without a key.
func (m Map[V]) Take(key string) Map[V] { return Map[V]{take(m.root, key)} }

func take[V any](n *Node[V], key string) *Node[V] {
	if n == nil {
		return nil
	}
	switch side := strings.Compare(key, n.key); {
	case side < 0:
		return n.joining(take(n.left, key), n.right)
	case side > 0:
		return n.joining(n.left, take(n.right, key))
	case n.left == nil:
		return n.right
	case n.right == nil:
		return n.left
	}
	next := end(n.right, (*Node[V]).Left)
	return next.joining(n.left, take(n.right, next.key))
}

// Split parts a map at a key.
func (m Map[V]) Split(key string) (Map[V], V, bool, Map[V]) {
	left, found, right := split(m.root, key)
	return Map[V]{left}, found.Value(), found != nil, Map[V]{right}
}

func split[V any](n *Node[V], key string) (left, found, right *Node[V]) {
	if n == nil {
		return nil, nil, nil
	}
	switch side := strings.Compare(key, n.key); {
	case side < 0:
		left, found, right = split(n.left, key)
		return left, found, n.joining(right, n.right)
	case side > 0:
		left, found, right = split(n.right, key)
		return n.joining(n.left, left), found, right
	}
	return n.left, n, n.right
}

// Join puts two maps and a key together.
func Join[V any](left Map[V], key string, v V, right Map[V]) (Map[V], api.Errno) {
	if !fits(left.root, key, right.root) {
		return Map[V]{}, api.ErrArg
	}
	return Map[V]{join(left.root, key, v, right.root)}, api.OK
}

// joining is both sides joined with n's key and value; of n's own sides n itself, so that what did not change is shared.
func (n *Node[V]) joining(left, right *Node[V]) *Node[V] {
	if left == n.left && right == n.right {
		return n
	}
	return join(left, n.key, n.value, right)
}

// join goes down the higher side's rim until what is there is about as high as the other side, and makes just that rim anew.
func join[V any](left *Node[V], key string, v V, right *Node[V]) *Node[V] {
	switch apart := left.Height() - right.Height(); {
	case apart > 1:
		return left.settled(left.left, join(left.right, key, v, right))
	case apart < -1:
		return right.settled(join(left, key, v, right.left), right.right)
	}
	return made(left, key, v, right)
}

// settled is a balanced node of n's key and value and both sides, whose heights differ by two at most.
func (n *Node[V]) settled(left, right *Node[V]) *Node[V] {
	switch apart := left.Height() - right.Height(); {
	case apart > 1:
		return n.turnedRight(left, right)
	case apart < -1:
		return n.turnedLeft(left, right)
	}
	return n.between(left, right)
}

// turnedRight puts left above n, or what is between them, if it is the higher one of left's sides.
func (n *Node[V]) turnedRight(left, right *Node[V]) *Node[V] {
	inner := left.right
	if inner.Height() > left.left.Height() {
		return inner.between(left.between(left.left, inner.left), n.between(inner.right, right))
	}
	return left.between(left.left, n.between(inner, right))
}

// turnedLeft is turnedRight, seen from the other side.
func (n *Node[V]) turnedLeft(left, right *Node[V]) *Node[V] {
	inner := right.left
	if inner.Height() > right.right.Height() {
		return inner.between(n.between(left, inner.left), right.between(inner.right, right.right))
	}
	return right.between(n.between(left, inner), right.right)
}
