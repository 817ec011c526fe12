package stamp_test

import (
	"encoding/binary"
	"math"
	"math/rand"
	"strings"
	"testing"

	"estuary/api"
	"estuary/stamp"
)

// keyOf is a key of parts that may or may not be.
func keyOf(gen uint64, repo byte, label string, number uint64, index byte) string {
	b := binary.BigEndian.AppendUint64(nil, gen)
	b = append(b, repo)
	b = append(b, label...)
	b = append(b, 0)
	b = binary.BigEndian.AppendUint64(b, number)
	return string(append(b, index))
}

func wantNoKey(t *testing.T, key string) {
	t.Helper()
	if s, e := stamp.OfKey(key); s != (api.Stamp{}) || e != api.ErrBytes {
		t.Errorf("OfKey(% .60x): %v, %v", key, s, e)
	}
}

// P6.4, the chapter's example.
func TestKeyExample(t *testing.T) {
	want := "\x00\x00\x00\x00\x00\x00\x00\x05\x01\x6D\x61\x69\x6E\x00\x00\x00\x00\x00\x00\x00\x00\x03\x00"
	if key, e := stamp.Key(sample()); key != want || e != api.OK {
		t.Errorf("Key: % x, %v", key, e)
	}
	if s, e := stamp.OfKey(want); s != sample() || e != api.OK {
		t.Errorf("OfKey: %v, %v", s, e)
	}
}

// P6.4
func TestKeyOfKey(t *testing.T) {
	all := goodStamps()
	for _, n := range goodNumbers() {
		for _, label := range goodLabels() {
			for _, index := range goodIndexes() {
				for _, repo := range goodRepos() {
					all = append(all, api.Stamp{Gen: n, Name: nameOf(repo, label, n), Index: index})
				}
			}
		}
	}
	for _, s := range all {
		b := s.Name.Branch
		key, e := stamp.Key(s)
		if want := keyOf(uint64(s.Gen), byte(b.Repo), b.Label, uint64(s.Name.Number), byte(s.Index)); key != want || e != api.OK {
			t.Fatalf("Key(%v): % x, %v; want % x", s, key, e, want)
		}
		if got, e := stamp.OfKey(key); got != s || e != api.OK {
			t.Fatalf("OfKey(% x): %v, %v", key, got, e)
		}
	}
}

// P6.4
func TestKeyRefused(t *testing.T) {
	for _, s := range badStamps() {
		if key, e := stamp.Key(s); key != "" || e != api.ErrArg {
			t.Errorf("Key(%v): % x, %v", s, key, e)
		}
	}
}

// P6.4: a key that is cut, at either end or within, or has bytes too many.
func TestOfKeyCut(t *testing.T) {
	for _, s := range append(goodStamps()[:200], sample()) {
		key, _ := stamp.Key(s)
		for n := range key {
			wantNoKey(t, key[:n])
		}
		for _, more := range []string{"\x00", "\x01", "a", "\x00\x00", "\xff", key} {
			wantNoKey(t, key+more)
		}
		wantNoKey(t, "\x00"+key)
		wantNoKey(t, key[:8]+key[9:])
	}
	for n := range 40 {
		for _, c := range []string{"\x00", "\x01", "a", "\xff"} {
			wantNoKey(t, strings.Repeat(c, n))
		}
	}
	wantNoKey(t, strings.Repeat("a", 1<<20))
}

// P6.4: keys of stamps that may not be.
func TestOfKeyMayNotBe(t *testing.T) {
	for _, n := range []uint64{0, 1<<62 + 1, 1 << 63, 1<<63 + 1, math.MaxInt64, math.MaxUint64} {
		wantNoKey(t, keyOf(n, 1, "main", 3, 0))
		wantNoKey(t, keyOf(5, 1, "main", n, 0))
	}
	for n := range 256 {
		if n >= api.MaxRepos {
			wantNoKey(t, keyOf(5, byte(n), "main", 3, 0))
		} else if s, e := stamp.OfKey(keyOf(5, byte(n), "main", 3, 0)); s.Name.Branch.Repo != n || e != api.OK {
			t.Errorf("OfKey of the repository %d: %v, %v", n, s, e)
		}
		if n >= api.MaxOps {
			wantNoKey(t, keyOf(5, 1, "main", 3, byte(n)))
		} else if s, e := stamp.OfKey(keyOf(5, 1, "main", 3, byte(n))); s.Index != n || e != api.OK {
			t.Errorf("OfKey of the place %d: %v, %v", n, s, e)
		}
		if n < 'a' || n > 'z' {
			for _, label := range []string{"%", "%a", "a%", "a%a"} {
				wantNoKey(t, keyOf(5, 1, strings.ReplaceAll(label, "%", string([]byte{byte(n)})), 3, 0))
			}
		}
	}
	for _, label := range badLabels() {
		wantNoKey(t, keyOf(5, 1, label, 3, 0))
	}
	key, _ := stamp.Key(sample())
	at := strings.Index(key, "main") + len("main")
	for n := 1; n < 256; n++ {
		wantNoKey(t, key[:at]+string([]byte{byte(n)})+key[at+1:]) // where the byte 0 is to end the label
	}
}

// P6.4: each byte of a key changed: another stamp's key, or none.
func TestOfKeyChanged(t *testing.T) {
	for _, s := range []api.Stamp{sample(), {Gen: api.MaxNumber, Name: nameOf(7, "zzzzzzzzzzzz", api.MaxNumber), Index: 63}, {Gen: 1, Name: nameOf(0, "a", 1)}} {
		key, _ := stamp.Key(s)
		for at := range key {
			for n := range 256 {
				changed := key[:at] + string([]byte{byte(n)}) + key[at+1:]
				got, e := stamp.OfKey(changed)
				if e == api.OK {
					if again, _ := stamp.Key(got); again != changed || changed != key && got == s {
						t.Fatalf("% x is taken as %v, whose key it is not", changed, got)
					}
				} else if got != (api.Stamp{}) || e != api.ErrBytes || changed == key {
					t.Fatalf("OfKey(% x): %v, %v", changed, got, e)
				}
			}
		}
	}
}

// P6.5: keys are ordered byte by byte as their stamps are.
func TestKeyOrder(t *testing.T) {
	l := goodStamps()
	keys := make([]string, len(l))
	for i, s := range l {
		keys[i], _ = stamp.Key(s)
	}
	inOrder(t, "Compare of the keys", keys, strings.Compare)
	for i, a := range l {
		for j, b := range l {
			if strings.Compare(keys[i], keys[j]) != stamp.Cmp(a, b) {
				t.Fatalf("the keys of %v and %v are not ordered as these", a, b)
			}
		}
	}
}

// P6.5: likewise of stamps by chance, near each other and far.
func TestKeyOrderChance(t *testing.T) {
	dice := rand.New(rand.NewSource(62))
	number := func() int64 {
		n := dice.Int63n(api.MaxNumber) + 1
		return n>>dice.Intn(62) | 1
	}
	one := func() api.Stamp {
		label := strings.Repeat("ab", 6)[dice.Intn(6):][:1+dice.Intn(6)]
		return api.Stamp{Gen: number() % 3 << dice.Intn(50), Name: nameOf(dice.Intn(api.MaxRepos), label, number()), Index: dice.Intn(api.MaxOps)}
	}
	for range 100000 {
		a, b := one(), one()
		a.Gen, b.Gen = max(1, a.Gen), max(1, b.Gen)
		if dice.Intn(2) == 0 {
			b.Gen = a.Gen
			b.Name.Branch.Repo = a.Name.Branch.Repo
		}
		x, e := stamp.Key(a)
		y, f := stamp.Key(b)
		if e != api.OK || f != api.OK || strings.Compare(x, y) != stamp.Cmp(a, b) {
			t.Fatalf("the keys of %v and %v: %v, %v, not ordered as these", a, b, e, f)
		}
	}
}
