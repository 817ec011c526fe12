package pmap_test

import (
	"slices"
	"testing"

	"estuary/api"
	"estuary/pmap"
)

// mostKeys is how many keys the maps have of which all shapes are gone over.
const mostKeys = 11

// with is the pairs of a model and one more, or with another value.
func with(l []pair, p pair) []pair {
	at, is := find(l, p.key)
	l = slices.Clone(l)
	if is {
		l[at] = p
		return l
	}
	return slices.Insert(l, at, p)
}

func without(l []pair, key string) []pair {
	at, is := find(l, key)
	if !is {
		return l
	}
	return slices.Delete(slices.Clone(l), at, at+1)
}

func find(l []pair, key string) (int, bool) {
	return slices.BinarySearchFunc(l, key, func(p pair, k string) int {
		switch {
		case p.key < k:
			return -1
		case p.key > k:
			return 1
		}
		return 0
	})
}

// P7.2, P7.5: a key put at each place of each shape.
func TestPut(t *testing.T) {
	for n := range mostKeys + 1 {
		for _, m := range shapes(t, 1, n) {
			unchanged := still(m)
			for place := range 2*n + 1 {
				got := m.Put(keyOf(place), -place)
				wantTold(t, got, with(odds(1, n), pair{keyOf(place), -place}))
				most := m.Height() + 1
				if place%2 == 1 {
					most = m.Height()
				}
				if made := fresh(got, m); made > most || made == 0 {
					t.Fatalf("Put of %d into %d keys, %d high: %d new nodes", place, n, m.Height(), made)
				}
			}
			unchanged(t)
			wantTold(t, m, odds(1, n))
		}
	}
}

// P7.2, P7.5: a key taken at each place of each shape.
func TestTake(t *testing.T) {
	for n := range mostKeys + 3 {
		for _, m := range shapes(t, 1, n) {
			unchanged := still(m)
			for place := range 2*n + 1 {
				got := m.Take(keyOf(place))
				wantTold(t, got, without(odds(1, n), keyOf(place)))
				if place%2 == 0 && !got.Same(m) {
					t.Fatalf("Take of %d, which is not there, is another map", place)
				}
				if made := fresh(got, m); made > 3*m.Height() {
					t.Fatalf("Take of %d from %d keys, %d high: %d new nodes", place, n, m.Height(), made)
				}
			}
			unchanged(t)
			wantTold(t, m, odds(1, n))
		}
	}
}

// P7.2, P7.5: high maps of few keys: taking from them turns nodes at many levels.
func TestTakeLeaning(t *testing.T) {
	for height := 1; height <= 8; height++ {
		for way := range uint(1) << (height - 1) {
			m := leaning(t, 1, height, way)
			want := odds(1, m.Len())
			unchanged := still(m)
			for i, p := range want {
				if way > 8 && i%5 != int(way%5) {
					continue
				}
				got := m.Take(p.key)
				wantTold(t, got, without(want, p.key))
				if made := fresh(got, m); made > 3*height {
					t.Fatalf("Take of %q from a map %d high: %d new nodes", p.key, height, made)
				}
			}
			unchanged(t)
		}
	}
}

// P7.3, P7.6: each shape split at each place, and joined again.
func TestSplit(t *testing.T) {
	for n := range mostKeys + 1 {
		for _, m := range shapes(t, 1, n) {
			unchanged := still(m)
			want := odds(1, n)
			for place := range 2*n + 1 {
				left, v, is, right := m.Split(keyOf(place))
				there := place%2 == 1
				if is != there || there && v != place || !there && v != 0 {
					t.Fatalf("Split at %d of %d keys: %v, %v", place, n, v, is)
				}
				wantTold(t, left, want[:place/2])
				wantTold(t, right, want[(place+1)/2:])
				again, e := pmap.Join(left, keyOf(place), place, right)
				if e != api.OK {
					t.Fatalf("Join of what was split at %d: %v", place, e)
				}
				wantTold(t, again, with(want, placed(place)))
			}
			unchanged(t)
			wantTold(t, m, want)
		}
	}
}

// P7.3: keys ahead of all and behind all: one side is all of it.
func TestSplitEnds(t *testing.T) {
	keys := strange()
	m := mustOf(t, keys, places(len(keys)))
	want := pairsOf(keys)
	left, v, is, right := m.Split("")
	wantTold(t, left, nil)
	wantTold(t, right, want[1:])
	if v != 1 || !is {
		t.Errorf("Split at the empty key: %v, %v", v, is)
	}
	left, v, is, right = m.Split("\xff\xff\x00")
	wantTold(t, left, want)
	wantTold(t, right, nil)
	if v != 0 || is {
		t.Errorf("Split behind all: %v, %v", v, is)
	}
}

// wantJoined: both and the key between them are joined, with no more new nodes than there may be.
func wantJoined(t *testing.T, left intMap, place int, right intMap) {
	t.Helper()
	unchanged := still(left, right)
	m, e := pmap.Join(left, keyOf(place), place, right)
	if e != api.OK {
		t.Fatalf("Join at %d of %d and %d keys: %v", place, left.Len(), right.Len(), e)
	}
	wantTold(t, m, odds(1, left.Len()+1+right.Len()))
	apart := max(left.Height()-right.Height(), right.Height()-left.Height())
	if made := fresh(m, left, right); made > apart+4 || made == 0 {
		t.Fatalf("Join of %d and %d keys, %d and %d high: %d new nodes", left.Len(), right.Len(), left.Height(), right.Height(), made)
	}
	unchanged(t)
}

// P7.3, P7.5: each shape joined with each.
func TestJoinShapes(t *testing.T) {
	for n := range 9 {
		for o := range 9 {
			lefts, rights := shapes(t, 1, n), shapes(t, 2*n+3, o)
			for _, left := range lefts {
				for _, right := range rights {
					wantJoined(t, left, 2*n+1, right)
				}
			}
		}
	}
}

// P7.3, P7.5: sides whose heights differ much.
func TestJoinHeights(t *testing.T) {
	sides := func(from, height int) []intMap {
		l := []intMap{full(t, from, min(height, 7))}
		for _, way := range []uint{0, ^uint(0), 0x5555, 0xaaaa, 0x3333, 0x6} {
			l = append(l, leaning(t, from, height, way))
		}
		return l
	}
	for high := range 10 {
		for low := range 10 {
			for _, left := range sides(1, high) {
				at := 1 + 2*left.Len()
				for _, right := range sides(at+2, low) {
					wantJoined(t, left, at, right)
				}
			}
		}
	}
}

// P7.3
func TestJoinRefused(t *testing.T) {
	var none intMap
	for n := range 7 {
		for o := range 7 {
			left, right := shapes(t, 1, n)[0], shapes(t, 101, o)[0]
			for place := range 120 {
				m, e := pmap.Join(left, keyOf(place), 0, right)
				fits := (n == 0 || place > 2*n-1) && (o == 0 || place < 101)
				if fits != (e == api.OK) || !fits && (e != api.ErrArg || m.Root() != nil) {
					t.Fatalf("Join of %d, %d, %d keys: %v", n, place, o, e)
				}
				m, e = pmap.Join(right, keyOf(place), 0, left)
				fits = (o == 0 || place > 99+2*o) && (n == 0 || place < 1)
				if fits != (e == api.OK) || !fits && (e != api.ErrArg || m.Root() != nil) {
					t.Fatalf("Join of %d above, %d, %d below: %v", o, place, n, e)
				}
			}
		}
	}
	one := none.Put("", 1)
	for _, sides := range [][2]intMap{{one, none}, {none, one}, {one, one}} {
		if m, e := pmap.Join(sides[0], "", 2, sides[1]); e != api.ErrArg || m.Root() != nil {
			t.Errorf("Join at the empty key beside it: %v", e)
		}
	}
	if m, e := pmap.Join(one, "\x00", 2, none.Put("\x00\x00", 3)); e != api.OK || m.Len() != 3 {
		t.Errorf("Join of keys that are beginnings: %v, %v", m.Len(), e)
	}
}

// P7.6: the same keys by Of, Put, Join and Make, in all orders.
func TestSameHoweverMade(t *testing.T) {
	keys := []string{"", "\x00", "a", "ab", "b", "\xff"}
	var want []pair
	for i, k := range keys {
		want = append(want, pair{k, i})
	}
	for _, l := range orders(keys) {
		var put, joined intMap
		values := make([]int, len(l))
		for i, k := range l {
			at := slices.Index(keys, k)
			values[i] = at
			put = put.Put(k, -1).Put(k, at)
			left, _, _, right := joined.Split(k)
			joined, _ = pmap.Join(left, k, at, right)
		}
		wantTold(t, put, want)
		wantTold(t, joined, want)
		wantTold(t, mustOf(t, l, values), want)
		less := put
		for i, k := range l {
			less = less.Take(k)
			if less.Len() != len(l)-1-i {
				t.Fatalf("%d keys are left of %d, of which %d were taken", less.Len(), len(l), i+1)
			}
			if _, is := less.Get(k); is {
				t.Fatalf("%q was taken, and is there", k)
			}
			wantWhole(t, less)
		}
		wantTold(t, put, want)
	}
}
