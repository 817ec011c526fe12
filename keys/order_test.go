package keys_test

import (
	"math"
	"slices"
	"strings"
	"testing"

	"estuary/api"
	"estuary/keys"
)

// ordered is texts as they must stand, each once: bytes that are no UTF-8 among them.
func ordered() []string {
	long := strings.Repeat("m", 4*api.MaxText)
	return []string{
		"", "\x00", "\x00\x00", "\x00\x01", "\x01", "\x1f", " ", " a", "/", "0", "A", "Z", "a", "a\x00", "a b", "a/", "aa", "ab", "abc", "ab\xff", "b",
		long, long + "\x00", long + "a", long + "b", long + "b\x00", "z", "\x7f", "\x80", "\xc2\x80", "é", "é\x00", "éa", "\u07ff", "\u0800", "\ud7ff", "\xed\xa0\x80", "\ue000", "\ufffd", "\uffff", "\U00010000", "\U0010ffff", "\xff", "\xff\x00", "\xff\xff",
	}
}

// inOrder asks that an order has these as they stand, and in no other way: so it is one (P5.4).
func inOrder[T any](t *testing.T, what string, l []T, order func(a, b T) int) {
	t.Helper()
	for i, a := range l {
		for j, b := range l {
			want := 0
			if i < j {
				want = -1
			} else if i > j {
				want = 1
			}
			if got := order(a, b); got != want {
				t.Errorf("%s(%#v, %#v): %d; want %d", what, a, b, got, want)
			}
		}
	}
}

// P5.1, P5.4
func TestCmp(t *testing.T) { inOrder(t, "Cmp", ordered(), keys.Cmp) }

// P5.1: of keys the order is rune by rune: every rune behind the one ahead of it.
func TestCmpRunes(t *testing.T) {
	last, text := rune(32), " "
	for r := last + 1; r <= 1114111; r++ {
		if r >= 55296 && r <= 57343 {
			continue
		}
		s := string(r)
		if keys.Cmp(text, s) != -1 || keys.Cmp(s, text) != 1 || keys.Cmp(s, s) != 0 || keys.Cmp("k"+text+"z", "k"+s) != -1 {
			t.Fatalf("Cmp of the runes %d and %d", last, r)
		}
		last, text = r, s
	}
}

// P5.1: one text stands once, wherever its bytes lie.
func TestCmpSame(t *testing.T) {
	for _, s := range ordered() {
		if keys.Cmp(s, strings.Clone(s)) != 0 {
			t.Errorf("Cmp of %q and itself", s)
		}
	}
}

// orderedPaths is paths as they must stand; some may not be paths.
func orderedPaths() [][]string {
	long := slices.Repeat([]string{"m"}, 3*api.MaxDepth)
	return [][]string{
		nil, {""}, {"", ""}, {"", "a"}, {"\x00"}, {"/a"}, {"a"}, {"a", ""}, {"a", "a"}, {"a", "a", "z"}, {"a", "aa"}, {"a", "b"}, {"a", "b", "a"}, {"a", "c"},
		{"a\x00"}, {"aa"}, {"aa", "a"}, {"ab"}, {"b"}, {"b", "a"}, {"b", "a", "a", "a", "a", "a"}, {"b", "a", "a", "a", "a", "b"}, {"b", "b"},
		long, append(slices.Clone(long), "a"), append(slices.Clone(long), "b"), {"\xff"}, {"\xff", "a"},
	}
}

// P5.1, P5.4
func TestCmpPath(t *testing.T) {
	inOrder(t, "CmpPath", orderedPaths(), keys.CmpPath)
	none := [][]string{nil, {}, make([]string, 0, 3)}
	for _, a := range none {
		for _, b := range none {
			if keys.CmpPath(a, b) != 0 {
				t.Error("two paths of no keys are not the same")
			}
		}
	}
}

// P5.1, P5.4: by paths; of one path by kinds; of one kind by keys; of any places.
func TestCmpPlace(t *testing.T) {
	var l []api.Place
	for _, path := range orderedPaths() {
		for _, kind := range []api.Kind{math.MinInt, -1, 0, api.Counter, api.Set, api.Register, api.Queue, api.Journal, api.Map, 7, math.MaxInt} {
			for _, key := range []string{"", "a", "ab", "b", "\xff"} {
				l = append(l, api.Place{Path: path, Kind: kind, Key: key})
			}
		}
	}
	inOrder(t, "CmpPlace", l, keys.CmpPlace)
	if keys.CmpPlace(api.Place{Path: nil, Kind: 1, Key: "a"}, api.Place{Path: []string{}, Kind: 1, Key: "a"}) != 0 {
		t.Error("no path and an empty one are not the same")
	}
}

// P5.4: a map's own things are ahead of those of the maps within it.
func TestOwnThingsFirst(t *testing.T) {
	for _, path := range orderedPaths() {
		within := slices.Clone(path)
		for range 3 {
			within = append(within, "\x20")
			for _, key := range []string{" ", "a", "\U0010ffff"} {
				own := api.Place{Path: path, Kind: api.Map, Key: key}
				deeper := api.Place{Path: within, Kind: api.Counter, Key: " "}
				if keys.CmpPlace(own, deeper) != -1 || keys.CmpPlace(deeper, own) != 1 {
					t.Errorf("%#v is not ahead of %#v", own, deeper)
				}
			}
		}
	}
}
