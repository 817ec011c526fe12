package pmap_test

import (
	"testing"

	"estuary/api"
	"estuary/pmap"
)

// keyOf is the key of a place; of places that are odd the maps of all shapes are made, so that there is room between any two.
func keyOf(place int) string { return string([]byte{byte(place >> 8), byte(place)}) }

func placed(place int) pair { return pair{keyOf(place), place} }

// odds is what a map of n keys tells, the first of them at that place.
func odds(from, n int) []pair {
	var l []pair
	for i := range n {
		l = append(l, placed(from+2*i))
	}
	return l
}

func mustMake(t *testing.T, left *intNode, place int, right *intNode) intMap {
	t.Helper()
	m, e := pmap.Make(left, keyOf(place), place, right)
	if e != api.OK {
		t.Fatalf("Make at %d of the heights %d and %d: %v", place, left.Height(), right.Height(), e)
	}
	return m
}

// shapes is a map of n keys in each way that is balanced, the first key at that place, each key two places further on.
func shapes(t *testing.T, from, n int) []intMap {
	t.Helper()
	if n == 0 {
		return []intMap{{}}
	}
	var all []intMap
	for at := range n {
		rights := shapes(t, from+2*at+2, n-1-at)
		for _, left := range shapes(t, from, at) {
			for _, right := range rights {
				if apart := left.Height() - right.Height(); apart >= -1 && apart <= 1 {
					all = append(all, mustMake(t, left.Root(), from+2*at, right.Root()))
				}
			}
		}
	}
	return all
}

// leaning is the map of that height with the fewest keys; way says of the levels which side is the higher one.
func leaning(t *testing.T, from, height int, way uint) intMap {
	t.Helper()
	switch height {
	case 0:
		return intMap{}
	case 1:
		return mustMake(t, nil, from, nil)
	}
	hl, hr := height-1, height-2
	if way&1 == 1 {
		hl, hr = hr, hl
	}
	left := leaning(t, from, hl, way>>1)
	at := from + 2*left.Len()
	return mustMake(t, left.Root(), at, leaning(t, at+2, hr, way>>1).Root())
}

// full is the map of that height with the most keys.
func full(t *testing.T, from, height int) intMap {
	t.Helper()
	if height == 0 {
		return intMap{}
	}
	left := full(t, from, height-1)
	at := from + 2*left.Len()
	return mustMake(t, left.Root(), at, full(t, at+2, height-1).Root())
}

// fresh is how many nodes of m are none of those handed in.
func fresh(m intMap, handed ...intMap) int {
	old := map[*intNode]bool{}
	for _, h := range handed {
		for n := range h.Nodes() {
			old[n] = true
		}
	}
	count := 0
	for n := range m.Nodes() {
		if !old[n] {
			count++
		}
	}
	return count
}

// look is all that a node tells.
type look struct {
	key         string
	value       int
	left, right *intNode
	height, len int
}

func lookAt(n *intNode) look {
	return look{n.Key(), n.Value(), n.Left(), n.Right(), n.Height(), n.Len()}
}

// still answers a function that asks whether all nodes of these maps tell what they told when it was made.
func still(l ...intMap) func(t *testing.T) {
	was := map[*intNode]look{}
	for _, m := range l {
		for n := range m.Nodes() {
			was[n] = lookAt(n)
		}
	}
	return func(t *testing.T) {
		t.Helper()
		for n, w := range was {
			if got := lookAt(n); got != w {
				t.Fatalf("a node has changed: %v; it was %v", got, w)
			}
		}
	}
}

// TestShapes: the numbers of shapes are known, so none is left out of what the other tests go over.
func TestShapes(t *testing.T) {
	for n, want := range []int{1, 1, 2, 1, 4, 6, 4, 17, 32, 44, 60, 70} {
		all := shapes(t, 1, n)
		if len(all) != want {
			t.Errorf("%d shapes of %d keys; there are %d", len(all), n, want)
		}
		for _, m := range all {
			wantTold(t, m, odds(1, n))
		}
	}
}
