package keys_test

import (
	"math"
	"slices"
	"strings"
	"testing"

	"estuary/api"
	"estuary/keys"
)

// form is a rune as n bytes, shortest or not, whatever its number.
func form(r, n int) string {
	if n == 1 {
		return string([]byte{byte(r)})
	}
	b := make([]byte, n)
	for i := n - 1; i > 0; i-- {
		b[i] = byte(0x80 | r&0x3f)
		r >>= 6
	}
	b[0] = byte(0xff<<(8-n) | r)
	return string(b)
}

// room is how many numbers have a form of n bytes.
func room(n int) int { return [5]int{0, 1 << 7, 1 << 11, 1 << 16, 1 << 21}[n] }

// mayStand tells whether this form of n bytes is a rune's that a key may have.
func mayStand(r, n int) bool {
	shortest := r >= room(n-1)
	return shortest && r >= 32 && r != '/' && (r < 55296 || r > 57343) && r <= 1114111
}

func wantKey(t *testing.T, s string, want bool) {
	t.Helper()
	if got := keys.Key(s); got != want {
		t.Errorf("Key(%q): %v", s, got)
	}
}

// wantWithin asks the same of a text alone, and of it ahead of, behind and between bytes that may be.
func wantWithin(t *testing.T, s string, want bool) {
	t.Helper()
	for _, s := range []string{s, s + "a", "a" + s, "a" + s + "b", "é" + s + "é"} {
		wantKey(t, s, want)
	}
}

// P5.1, the chapter's examples.
func TestExamples(t *testing.T) {
	for s, want := range map[string]bool{"a": true, "": false, "a/b": false, "\x1f": false, "\xff": false, "é": true} {
		wantKey(t, s, want)
	}
	for _, x := range []struct {
		l    []string
		want bool
	}{
		{[]string{"a", "b", "c", "d", "e", "f"}, true},
		{[]string{"a", "b", "c", "d", "e", "f", "g"}, false},
		{[]string{"a/b"}, false},
	} {
		if keys.Path(x.l) != x.want {
			t.Errorf("Path(%q): %v", x.l, !x.want)
		}
	}
	if !keys.Label("main") || keys.Label("A") {
		t.Error("Label")
	}
	if keys.Cmp("a", "ab") != -1 || keys.CmpPath([]string{"a"}, []string{"a", "b"}) != -1 || keys.CmpPath([]string{"b"}, []string{"a", "b"}) != 1 {
		t.Error("Cmp, CmpPath")
	}
}

// P5.1: every form of one rune, from one byte to four, too long ones, surrogates and numbers above the last rune among them.
func TestKeyRunes(t *testing.T) {
	for n := 1; n <= 4; n++ {
		for r := range room(n) {
			if s := form(r, n); keys.Key(s) != mayStand(r, n) {
				t.Fatalf("Key(%q), of the number %d as %d bytes: %v", s, r, n, !mayStand(r, n))
			}
		}
	}
}

// P5.1: the first and the last rune of each length, and those beside which a key may be none, alone and among others.
func TestKeyEdges(t *testing.T) {
	for _, r := range []rune{32, 46, 48, 126, 127, 128, 159, 2047, 2048, 55295, 57344, 65533, 65535, 65536, 1114111} {
		wantWithin(t, string(r), true)
	}
	for r := range rune(32) {
		wantWithin(t, string(r), false)
	}
	wantWithin(t, "/", false)
	for _, s := range []string{
		form('a', 2), form('/', 2), form(127, 2), form(0, 2), // too long forms
		form('a', 3), form(2047, 3), form('a', 4), form(65535, 4),
		"\xed\xa0\x80", "\xed\xaf\xbf", "\xed\xb0\x80", "\xed\xbf\xbf", // 55296, 56319, 56320, 57343
		"\xf4\x90\x80\x80", "\xf7\xbf\xbf\xbf", "\xf8\x88\x80\x80\x80", "\xfc\x84\x80\x80\x80\x80", "\xfe", "\xff", // above 1114111
		"\x80", "\xbf", "\xc3", "\xe2\x82", "\xe2", "\xf0\x9f\x8c", "\xf0\x9f", "\xf0", "\xa9\xc3", "\xe2\x82\xac\x80", // cut ones, and more than whole ones
	} {
		wantWithin(t, s, false)
	}
}

// P5.1: every text of two bytes.
func TestKeyPairs(t *testing.T) {
	for a := range 256 {
		for b := range 256 {
			want := a < 128 && b < 128 && mayStand(a, 1) && mayStand(b, 1) || a >= 0xc2 && a < 0xe0 && b >= 0x80 && b < 0xc0
			wantKey(t, string([]byte{byte(a), byte(b)}), want)
		}
	}
}

// P5.1: a key's length is counted in bytes.
func TestKeyLength(t *testing.T) {
	for n := range 3 * api.MaxKey {
		wantKey(t, strings.Repeat("a", n), n >= 1 && n <= api.MaxKey)
	}
	for _, s := range []string{"é", "€", "\U0010ffff"} {
		most := api.MaxKey / len(s)
		left := strings.Repeat("b", api.MaxKey-most*len(s))
		wantKey(t, strings.Repeat(s, most)+left, true)
		wantKey(t, strings.Repeat(s, most)+left+"b", false)
		wantKey(t, left+strings.Repeat(s, most+1), false)
	}
	// A wrong last byte counts, too.
	wantKey(t, strings.Repeat("a", api.MaxKey-1)+"/", false)
	wantKey(t, strings.Repeat("a", api.MaxKey-1)+"\xc3", false)
	wantKey(t, strings.Repeat("a", 1<<20), false)
}

// P5.1
func TestPath(t *testing.T) {
	long := strings.Repeat("k", api.MaxKey)
	wrong := []string{"", "/", "a/b", "\x1f", "\xff", long + "k", "\xed\xa0\x80"}
	for n := range 2*api.MaxDepth + 2 {
		for _, key := range []string{"a", "é", long} {
			l := slices.Repeat([]string{key}, n)
			if got := keys.Path(l); got != (n <= api.MaxDepth) {
				t.Errorf("Path of %d keys %q: %v", n, key, got)
			}
			for at := range l {
				for _, bad := range wrong {
					l[at] = bad
					if keys.Path(l) {
						t.Errorf("Path(%q) may be", l)
					}
				}
				l[at] = key
			}
		}
	}
	if !keys.Path(nil) || !keys.Path([]string{}) {
		t.Error("the path of no keys may not be")
	}
	if keys.Path(slices.Repeat([]string{"a"}, 1<<20)) {
		t.Error("Path of 2^20 keys")
	}
}

// P5.1: a text is any bytes.
func TestText(t *testing.T) {
	for n := range 2 * api.MaxText {
		for c := range 256 {
			if got := keys.Text(strings.Repeat(string([]byte{byte(c)}), n)); got != (n <= api.MaxText) {
				t.Fatalf("Text of %d bytes %d: %v", n, c, got)
			}
		}
	}
	if keys.Text(strings.Repeat("é", api.MaxText)) || !keys.Text(strings.Repeat("é", api.MaxText/2)) {
		t.Error("a text's length is not counted in bytes")
	}
}

// P5.1
func TestLabel(t *testing.T) {
	for n := range 2 * api.MaxLabel {
		for c := range 256 {
			s := strings.Repeat("m", n/2) + string([]byte{byte(c)}) + strings.Repeat("m", n-n/2)
			want := n+1 <= api.MaxLabel && c >= 'a' && c <= 'z'
			if got := keys.Label(s); got != want {
				t.Errorf("Label(%q): %v", s, got)
			}
		}
	}
	for _, s := range []string{"", "é", "main ", " main", "ma/in", "\u0430", strings.Repeat("a", 1<<16)} {
		if keys.Label(s) {
			t.Errorf("Label(%q) may be", s)
		}
	}
	if !keys.Label(strings.Repeat("z", api.MaxLabel)) {
		t.Error("Label of MaxLabel bytes")
	}
}

// P5.1
func TestPlace(t *testing.T) {
	deep := slices.Repeat([]string{"a"}, api.MaxDepth)
	for _, path := range [][]string{nil, {}, {"a"}, deep} {
		for kind := api.Counter; kind <= api.Map; kind++ {
			p := api.Place{Path: path, Kind: kind, Key: "k"}
			if !keys.Place(p) {
				t.Errorf("Place(%#v) may not be", p)
			}
		}
		for _, kind := range []api.Kind{0, -1, 7, 8, -6, math.MinInt, math.MaxInt} {
			p := api.Place{Path: path, Kind: kind, Key: "k"}
			if keys.Place(p) {
				t.Errorf("Place(%#v) may be", p)
			}
		}
	}
	for _, key := range []string{"", "/", "\x00", "\xff", strings.Repeat("k", api.MaxKey+1)} {
		for _, p := range []api.Place{{Kind: api.Set, Key: key}, {Path: []string{key}, Kind: api.Set, Key: "k"}, {Path: []string{"a", key}, Kind: api.Set, Key: "k"}} {
			if keys.Place(p) {
				t.Errorf("Place(%#v) may be", p)
			}
		}
	}
	if keys.Place(api.Place{Path: append(deep, "a"), Kind: api.Set, Key: "k"}) || keys.Place(api.Place{}) {
		t.Error("a place of a path too long, or a zero one, may be")
	}
}
