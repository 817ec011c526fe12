package tagset_test

import (
	"cmp"
	"math"
	"slices"
	"strings"
	"testing"

	"estuary/api"
	"estuary/stamp"
	"estuary/tagset"
)

// at is a stamp of a generation.
func at(gen int64) api.Stamp { return stampOf(gen, 0, "a", 1, 0) }

func stampOf(gen int64, repo int, label string, number int64, index int) api.Stamp {
	return api.Stamp{Gen: gen, Name: api.Name{Branch: api.Branch{Repo: repo, Label: label}, Number: number}, Index: index}
}

// rising is stamps that differ from their neighbours in one field more or less, in order.
func rising() []api.Stamp {
	return []api.Stamp{
		stampOf(1, 0, "a", 1, 0), stampOf(1, 0, "a", 1, 1), stampOf(1, 0, "a", 1, api.MaxOps-1), stampOf(1, 0, "a", 2, 0), stampOf(1, 0, "a", api.MaxNumber, 0),
		stampOf(1, 0, "aa", 1, 0), stampOf(1, 0, "b", 1, 0), stampOf(1, 1, "a", 1, 0), stampOf(1, api.MaxRepos-1, "a", 1, 0),
		stampOf(2, 0, "a", 1, 0), stampOf(3, 0, "a", 1, 0), stampOf(256, 0, "a", 1, 0), stampOf(api.MaxNumber, api.MaxRepos-1, "zzzzzzzzzzzz", api.MaxNumber, api.MaxOps-1),
	}
}

// wrongStamps is stamps that may not be.
func wrongStamps() []api.Stamp {
	return []api.Stamp{
		{}, stampOf(0, 0, "a", 1, 0), stampOf(-1, 0, "a", 1, 0), stampOf(api.MaxNumber+1, 0, "a", 1, 0), stampOf(math.MinInt64, 0, "a", 1, 0), stampOf(math.MaxInt64, 0, "a", 1, 0),
		stampOf(9, -1, "a", 1, 0), stampOf(9, api.MaxRepos, "a", 1, 0), stampOf(9, 0, "", 1, 0), stampOf(9, 0, "A", 1, 0), stampOf(9, 0, "aaaaaaaaaaaaa", 1, 0),
		stampOf(9, 0, "a", 0, 0), stampOf(9, 0, "a", -1, 0), stampOf(9, 0, "a", api.MaxNumber+1, 0), stampOf(9, 0, "a", 1, -1), stampOf(9, 0, "a", 1, api.MaxOps),
	}
}

// texts is texts that may be, rising: with bytes 0 and 1, of which one is the beginning of another one, of none and of as many bytes as may be.
func texts() []string {
	l := []string{
		"", "\x00", "\x00\x00", "\x00\x00\x01", "\x00\x01", "\x00\x01\x00", "\x00\x02", "\x00a", "\x01", "\x01\x00", "\x01\x01", "\x02",
		"a", "a\x00", "a\x00\x00", "a\x00\x00\x00\x00\x00\x00\x00\x00\x00\x01\x00a", "a\x00\x01", "a\x00b", "a\x01", "a\x01\x00", "ab", "abc", "b", "two words", "é", "\xff", "\xff\x00", "\xff\xff",
	}
	for _, c := range []string{"\x00", "\x01", "a", "\xff"} {
		l = append(l, strings.Repeat(c, api.MaxText), strings.Repeat(c, api.MaxText-1))
	}
	l = append(l, strings.Repeat("\x00\x01", api.MaxText/2), strings.Repeat("a", api.MaxText-1)+"\x00")
	slices.Sort(l)
	return l
}

// wrongTexts is texts that are too long.
func wrongTexts() []string {
	var l []string
	for _, c := range []string{"\x00", "\x01", "a", "\xff"} {
		l = append(l, strings.Repeat(c, api.MaxText+1), strings.Repeat(c, 2*api.MaxText), strings.Repeat(c, 1<<16))
	}
	return l
}

func stampKey(t *testing.T, s api.Stamp) string {
	t.Helper()
	key, e := stamp.Key(s)
	if e != api.OK {
		t.Fatalf("no key of the stamp %v: %v", s, e)
	}
	return key
}

// plainKey is a tag's key, put together byte by byte.
func plainKey(t *testing.T, text string, s api.Stamp) string {
	t.Helper()
	key := ""
	for i := range len(text) {
		key += text[i : i+1]
		if text[i] == 0 {
			key += "\x01"
		}
	}
	return key + "\x00\x00" + stampKey(t, s)
}

func wantNoKey(t *testing.T, key string) {
	t.Helper()
	if x, is := tagset.OfKey(key); is || x != (api.Element{}) {
		t.Fatalf("OfKey(%q): %v, %v", key, x, is)
	}
}

// P11.1, the chapter's examples.
func TestKeyExamples(t *testing.T) {
	if key, e := tagset.Key(strings.Repeat("x", 257), at(1)); key != "" || e != api.ErrArg {
		t.Errorf("Key of 257 bytes: %q, %v", key, e)
	}
	wantNoKey(t, "x")
	want := "x\x00\x01\x00\x00" + "\x00\x00\x00\x00\x00\x00\x00\x05" + "\x01main\x00" + "\x00\x00\x00\x00\x00\x00\x00\x03" + "\x07"
	if key, e := tagset.Key("x\x00", stampOf(5, 1, "main", 3, 7)); key != want || e != api.OK {
		t.Errorf("Key: %q, %v", key, e)
	}
}

// P11.1: each text with each stamp, there and back.
func TestKeyAndBack(t *testing.T) {
	for _, text := range texts() {
		for _, s := range rising() {
			key, e := tagset.Key(text, s)
			if key != plainKey(t, text, s) || e != api.OK {
				t.Fatalf("Key(%q, %v): %q, %v", text, s, key, e)
			}
			if x, is := tagset.OfKey(key); !is || x != (api.Element{Stamp: s, Text: text}) {
				t.Fatalf("OfKey(%q): %v, %v", key, x, is)
			}
		}
	}
	for n := range 256 {
		for _, text := range []string{"%", "%%", "a%", "%a", "\x00%", "%\x00", "\x01%", "%\x01"} {
			text = strings.ReplaceAll(text, "%", string([]byte{byte(n)}))
			key, e := tagset.Key(text, at(1))
			if x, is := tagset.OfKey(key); e != api.OK || !is || x.Text != text || x.Stamp != at(1) {
				t.Fatalf("of %q: %v; %v, %v", text, e, x, is)
			}
		}
	}
}

// The chapter's words: keys are ordered by texts, of one text by stamps.
func TestKeyOrder(t *testing.T) {
	var last string
	for _, text := range texts() {
		for _, s := range rising() {
			key, _ := tagset.Key(text, s)
			if key <= last {
				t.Fatalf("the key of %q, %v is not behind %q", text, s, last)
			}
			last = key
		}
	}
	// All texts of up to three of the bytes 0, 1, 2.
	all := []string{""}
	for i := 0; len(all[i]) < 3; i++ {
		all = append(all, all[i]+"\x00", all[i]+"\x01", all[i]+"\x02")
	}
	for _, x := range all {
		for _, y := range all {
			for _, gen := range []int64{1, 1 << 56, api.MaxNumber} {
				k, _ := tagset.Key(x, at(3))
				l, _ := tagset.Key(y, at(gen))
				if want := cmp.Or(strings.Compare(x, y), cmp.Compare(3, gen)); strings.Compare(k, l) != want {
					t.Fatalf("the keys of %q, 3 and %q, %d: %q, %q", x, y, gen, k, l)
				}
			}
		}
	}
}

// P11.1: texts that are too long, stamps that may not be, both.
func TestKeyRefused(t *testing.T) {
	refused := func(text string, s api.Stamp) {
		t.Helper()
		if key, e := tagset.Key(text, s); key != "" || e != api.ErrArg {
			t.Errorf("Key(%d bytes, %v): %q, %v", len(text), s, key, e)
		}
	}
	for _, s := range wrongStamps() {
		refused("x", s)
		refused("", s)
		refused(wrongTexts()[0], s)
	}
	for _, text := range wrongTexts() {
		refused(text, at(1))
	}
}

// wrongKeys is keys that are no tag's.
func wrongKeys(t *testing.T) []string {
	s := stampKey(t, at(1))
	l := []string{
		"", "x", "\x00", "\x00\x00", "\x00\x00\x00", "x\x00\x00", "x\x00\x01", s, "x" + s, "x\x00" + s, "x\x01" + s,
		"\x00\x00" + s + "\x00", "\x00\x00\x00" + s, "\x00\x00\x01" + s, "x\x00\x00\x00\x00" + s, "x\x00\x00" + s + s,
		"x\x00\x02\x00\x00" + s, "\x00x\x00\x00" + s, "x\x00\xff\x00\x00" + s, "x\x00\x01\x00\x02\x00\x00" + s, "x\x00\x01\x00" + s, // a byte 0 that is none of the text's, nor its end
		"x\x00\x00y\x00\x00" + s,
		strings.Repeat("x", api.MaxText+1) + "\x00\x00" + s, strings.Repeat("\x00\x01", api.MaxText+1) + "\x00\x00" + s, strings.Repeat("x", 1<<16) + "\x00\x00" + s, // texts that are too long
		"x\x00\x00" + strings.Repeat("\x00", len(s)), "x\x00\x00" + strings.Repeat("\xff", len(s)), // stamps that may not be
		"x\x00\x00" + strings.ReplaceAll(s, "a", "A"), "x\x00\x00" + s[:len(s)-1] + string(rune(api.MaxOps)),
		strings.Repeat("\x00", 300), strings.Repeat("\x01", 300), strings.Repeat("\xff", 1<<16),
	}
	for n := range s {
		l = append(l, "x\x00\x00"+s[:n], "\x00\x01\x00\x00"+s[:n])
	}
	return l
}

// P11.1
func TestOfKeyRefused(t *testing.T) {
	for _, key := range wrongKeys(t) {
		wantNoKey(t, key)
	}
}

// P11.1: each byte of a key changed, left out or doubled: another tag's key, or none.
func TestOfKeyChanged(t *testing.T) {
	for _, text := range []string{"", "ab", "a\x00b", "\x00\x01", strings.Repeat("\x00", api.MaxText)} {
		key, _ := tagset.Key(text, stampOf(5, 1, "main", 3, 7))
		for i := range key {
			changed := []string{key[:i] + key[i+1:], key[:i+1] + key[i:]}
			for n := range 256 {
				changed = append(changed, key[:i]+string([]byte{byte(n)})+key[i+1:])
			}
			for _, other := range changed {
				x, is := tagset.OfKey(other)
				if again, e := tagset.Key(x.Text, x.Stamp); is && (again != other || e != api.OK) || !is && (x != api.Element{} || other == key) {
					t.Fatalf("OfKey(%q): %q, %v, %v", other, x.Text, x.Stamp, is)
				}
			}
		}
	}
}
