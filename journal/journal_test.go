package journal_test

import (
	"math"
	"math/rand"
	"slices"
	"strings"
	"testing"

	"estuary/api"
	"estuary/journal"
	"estuary/pmap"
	"estuary/stamp"
)

type book = pmap.Map[string]

// at is a stamp of a generation.
func at(gen int64) api.Stamp { return stampOf(gen, 0, "a", 1, 0) }

func stampOf(gen int64, repo int, label string, number int64, index int) api.Stamp {
	return api.Stamp{Gen: gen, Name: api.Name{Branch: api.Branch{Repo: repo, Label: label}, Number: number}, Index: index}
}

// entry is one of a generation.
func entry(gen int64, text string) api.Element { return api.Element{Stamp: at(gen), Text: text} }

// rising is stamps that differ from their neighbours in one field more or less, in order, from the least one to the greatest.
func rising() []api.Stamp {
	return []api.Stamp{
		stampOf(1, 0, "a", 1, 0), stampOf(1, 0, "a", 1, 1), stampOf(1, 0, "a", 1, api.MaxOps-1), stampOf(1, 0, "a", 2, 0), stampOf(1, 0, "a", 255, 0), stampOf(1, 0, "a", 256, 0), stampOf(1, 0, "a", api.MaxNumber, api.MaxOps-1),
		stampOf(1, 0, "aa", 1, 0), stampOf(1, 0, "b", 1, 0), stampOf(1, 0, "ba", 1, 0), stampOf(1, 1, "a", 1, 0), stampOf(1, api.MaxRepos-1, "a", 1, 0),
		stampOf(2, 0, "a", 1, 0), stampOf(3, 0, "a", 1, 0), stampOf(255, 0, "a", 1, 0), stampOf(256, 0, "a", 1, 0), stampOf(1<<32, 0, "a", 1, 0), greatest(),
	}
}

// greatest is the stamp that is behind all others.
func greatest() api.Stamp {
	return stampOf(api.MaxNumber, api.MaxRepos-1, "zzzzzzzzzzzz", api.MaxNumber, api.MaxOps-1)
}

// wrongStamps is stamps that may not be; the first one is the zero one.
func wrongStamps() []api.Stamp {
	return []api.Stamp{
		{}, stampOf(0, 0, "a", 1, 0), stampOf(-1, 0, "a", 1, 0), stampOf(api.MaxNumber+1, 0, "a", 1, 0), stampOf(math.MinInt64, 0, "a", 1, 0), stampOf(math.MaxInt64, 0, "a", 1, 0),
		stampOf(9, -1, "a", 1, 0), stampOf(9, api.MaxRepos, "a", 1, 0), stampOf(9, 256, "a", 1, 0), stampOf(9, 0, "", 1, 0), stampOf(9, 0, "A", 1, 0), stampOf(9, 0, "a\x00", 1, 0), stampOf(9, 0, "aaaaaaaaaaaaa", 1, 0),
		stampOf(9, 0, "a", 0, 0), stampOf(9, 0, "a", -1, 0), stampOf(9, 0, "a", api.MaxNumber+1, 0), stampOf(9, 0, "a", 1, -1), stampOf(9, 0, "a", 1, api.MaxOps), stampOf(9, 0, "a", 1, 256),
		stampOf(1, 0, "", 0, 0), stampOf(0, 1, "", 0, 0), stampOf(0, 0, "", 1, 0), stampOf(0, 0, "", 0, 1),
	}
}

// texts is texts that may be: of no bytes and of as many as may be, with any bytes.
func texts() []string {
	l := []string{"", "\x00", "\x00\x00", "\x00\x01", "a", "a\x00", "ab", "b", "a/b", "two words", "é", "\xff", "\xff\xff"}
	for _, c := range []string{"\x00", "a", "\xff"} {
		l = append(l, strings.Repeat(c, api.MaxText-1), strings.Repeat(c, api.MaxText))
	}
	return append(l, strings.Repeat("é", api.MaxText/2))
}

// wrongTexts is texts that are too long, by their bytes if not by their runes.
func wrongTexts() []string {
	l := []string{strings.Repeat("é", api.MaxText/2) + "x", strings.Repeat("é", api.MaxText)}
	for _, c := range []string{"\x00", "a", "\xff"} {
		l = append(l, strings.Repeat(c, api.MaxText+1), strings.Repeat(c, 1<<16))
	}
	return l
}

func keyOf(t *testing.T, s api.Stamp) string {
	t.Helper()
	key, e := stamp.Key(s)
	if e != api.OK {
		t.Fatalf("no key of the stamp %v: %v", s, e)
	}
	return key
}

// of is the journal of some entries, which must be.
func of(t *testing.T, l ...api.Element) book {
	t.Helper()
	m, e := journal.Of(l...)
	if e != api.OK {
		t.Fatalf("Of(%v): %v", l, e)
	}
	return m
}

func elements(t *testing.T, m book) []api.Element {
	t.Helper()
	l, e := journal.Elements(m)
	if e != api.OK {
		t.Fatalf("Elements: %v", e)
	}
	return l
}

// byStamps is entries by stamps.
func byStamps(l []api.Element) []api.Element {
	l = slices.Clone(l)
	slices.SortFunc(l, func(x, y api.Element) int { return stamp.Cmp(x.Stamp, y.Stamp) })
	return l
}

// wantJournal asks a journal for all that it tells, and holds it against a plain list of entries in any order.
func wantJournal(t *testing.T, what string, m book, want []api.Element) {
	t.Helper()
	want = byStamps(want)
	if !journal.May(m) || m.Len() != len(want) {
		t.Fatalf("%s: may be: %v, %d entries, not %d", what, journal.May(m), m.Len(), len(want))
	}
	if got := elements(t, m); !slices.Equal(got, want) {
		t.Fatalf("%s: %v, not %v", what, got, want)
	}
	var plain []string
	for i, x := range want {
		plain = append(plain, x.Text)
		if text, has := m.Get(keyOf(t, x.Stamp)); !has || text != x.Text {
			t.Fatalf("%s: under the key of %v: %q, %v", what, x, text, has)
		}
		wantAt(t, what, m, i, x)
	}
	if got, e := journal.Texts(m); !slices.Equal(got, plain) || e != api.OK {
		t.Fatalf("%s: Texts: %q, %v, not %q", what, got, e, plain)
	}
	wantNoneAt(t, what, m, -1)
	wantNoneAt(t, what, m, len(want))
	wantSince(t, what, m, api.Stamp{}, want)
	for _, i := range []int{0, len(want) / 2, len(want) - 1} {
		if i >= 0 && i < len(want) {
			wantSince(t, what, m, want[i].Stamp, want[i+1:])
		}
	}
	wantPart(t, what+", of itself", m, m, true)
}

// wantTexts asks a journal for its texts.
func wantTexts(t *testing.T, what string, m book, want ...string) {
	t.Helper()
	if l, e := journal.Texts(m); !slices.Equal(l, want) || e != api.OK {
		t.Errorf("%s: Texts: %q, %v, not %q", what, l, e, want)
	}
}

// some is entries of all texts, whose stamps rise otherwise than their texts do.
func some() []api.Element {
	var l []api.Element
	for i, text := range texts() {
		l = append(l, api.Element{Stamp: stampOf(int64(i*7%5+1), i%3, "a", int64(i+1), i%2), Text: text})
	}
	return l
}

// P14.1, P14.2, P14.3: the chapter's examples.
func TestExamples(t *testing.T) {
	m := of(t, entry(2, "b"), entry(1, "a"))
	wantTexts(t, "Of", m, "a", "b")
	wantAt(t, "At", m, 1, entry(2, "b"))
	wantNoneAt(t, "At", m, 2)
	wantSince(t, "Since", m, at(1), []api.Element{entry(2, "b")})
	if n, e := journal.Append(m, at(1), "c"); n.Root() != nil || e != api.ErrArg {
		t.Errorf("Append of a stamp that is there: %d entries, %v", n.Len(), e)
	}
	wantTexts(t, "Append", appended(t, m, entry(3, "c")), "a", "b", "c")
	one := of(t, entry(1, "a"))
	wantPart(t, "of the longer one", one, m, true)
	wantPart(t, "of the shorter one", m, one, false)
	wantTexts(t, "Three", together(t, one, m, of(t, entry(1, "a"), entry(3, "c"))), "a", "b", "c")
}

// P14.1: the journal of no entries.
func TestOfNone(t *testing.T) {
	for _, m := range []book{of(t), of(t, nil...), of(t, []api.Element{}...), {}} {
		if m.Root() != nil {
			t.Errorf("a journal of none has %d entries", m.Len())
		}
		wantJournal(t, "of none", m, nil)
	}
}

// P14.1, P14.2, P14.3: each text under each stamp, alone.
func TestOfOne(t *testing.T) {
	for _, text := range texts() {
		for _, s := range rising() {
			x := api.Element{Stamp: s, Text: text}
			wantJournal(t, "of one", of(t, x), []api.Element{x})
		}
	}
}

// P14.1, P14.4: entries in any order; Of of Elements tells the same.
func TestOf(t *testing.T) {
	chance := rand.New(rand.NewSource(14))
	for n := range some() {
		for range 20 {
			l := some()
			chance.Shuffle(len(l), func(i, j int) { l[i], l[j] = l[j], l[i] })
			l = l[:n+1]
			m := of(t, l...)
			wantJournal(t, "Of", m, l)
			wantJournal(t, "Of of Elements", of(t, elements(t, m)...), l)
		}
	}
	var all []api.Element
	for i, s := range rising() {
		all = append(all, api.Element{Stamp: s, Text: texts()[i]})
	}
	slices.Reverse(all)
	wantJournal(t, "stamps that differ in one field", of(t, all...), all)
	one := []api.Element{entry(3, "x"), entry(1, "x"), entry(2, "x")}
	wantJournal(t, "one text thrice", of(t, one...), one)
}

// P14.1: a text, a stamp that may not be, at each place; a stamp twice, with two texts and with one.
func TestOfRefused(t *testing.T) {
	refused := func(what string, wrong api.Element) {
		t.Helper()
		for at := range 4 {
			l := slices.Insert([]api.Element{entry(1, "x"), entry(2, "y"), entry(3, "x")}, at, wrong)
			if m, e := journal.Of(l...); m.Root() != nil || e != api.ErrArg {
				t.Errorf("Of with %s at %d: %d entries, %v", what, at, m.Len(), e)
			}
		}
	}
	for _, s := range wrongStamps() {
		refused("a stamp that may not be", api.Element{Stamp: s, Text: "z"})
		if m, e := journal.Of(api.Element{Stamp: s}); m.Root() != nil || e != api.ErrArg {
			t.Errorf("Of the stamp %v: %d entries, %v", s, m.Len(), e)
		}
	}
	for _, text := range wrongTexts() {
		refused("a text that is too long", entry(9, text))
		if m, e := journal.Of(entry(1, text)); m.Root() != nil || e != api.ErrArg {
			t.Errorf("Of %d bytes: %d entries, %v", len(text), m.Len(), e)
		}
	}
	for i, text := range []string{"x", "y", "x"} {
		refused("a stamp twice", entry(int64(i+1), "z"))
		refused("an entry twice", entry(int64(i+1), text))
	}
}

// wrongKeys is keys that are no stamp's.
func wrongKeys(t *testing.T) []string {
	s := keyOf(t, stampOf(5, 1, "main", 3, 7))
	l := []string{
		"x", "\x00", s + "\x00", "\x00" + s, s + s, "x" + s, s[1:], "x\x00\x00" + s, // the last one is a tag's
		strings.Repeat("\x00", len(s)), strings.Repeat("\xff", len(s)), strings.Repeat("a", 1<<16),
		strings.ReplaceAll(s, "main", "Main"), strings.ReplaceAll(s, "main", ""), strings.ReplaceAll(s, "main", "mainmainmainm"),
		s[:len(s)-1] + string(rune(api.MaxOps)), strings.Replace(s, "\x05\x01", "\x05\x08", 1), strings.Replace(s, "\x05\x01", "\x00\x01", 1), "\x80" + s[1:], "\xff" + s[1:],
	}
	for n := range s {
		l = append(l, s[:n])
	}
	return l
}

// wrongMaps is maps that may not be: with a key that is no stamp's, or a text that is too long; alone, and ahead of, amid and behind entries.
func wrongMaps(t *testing.T) []book {
	few := of(t, entry(1, "x"), entry(6, "y"))
	var l []book
	for _, key := range wrongKeys(t) {
		l = append(l, book{}.Put(key, "x"), book{}.Put(key, ""), few.Put(key, "x"), of(t, some()...).Put(key, "x"))
	}
	for _, text := range wrongTexts() {
		l = append(l, book{}.Put(keyOf(t, at(1)), text))
		for gen := range int64(7) {
			l = append(l, few.Put(keyOf(t, at(gen+1)), text))
		}
	}
	return append(l, book{}.Put("", ""), book{}.Put("x", wrongTexts()[0]))
}

// P14.1, P14.2, P14.3: what each call answers of maps that may not be.
func TestWrongMaps(t *testing.T) {
	good := of(t, entry(1, "x"))
	for i, m := range wrongMaps(t) {
		if journal.May(m) {
			t.Fatalf("%d: it may be", i)
		}
		if l, e := journal.Elements(m); len(l) != 0 || e != api.ErrArg {
			t.Errorf("%d: Elements: %v, %v", i, l, e)
		}
		if l, e := journal.Texts(m); len(l) != 0 || e != api.ErrArg {
			t.Errorf("%d: Texts: %v, %v", i, l, e)
		}
		for _, place := range []int{math.MinInt, -1, 0, 1, m.Len() - 1, m.Len(), math.MaxInt} {
			wantNoneAt(t, "a map that may not be", m, place)
		}
		for _, s := range []api.Stamp{at(1), at(9), greatest()} {
			if n, e := journal.Append(m, s, "x"); n.Root() != nil || e != api.ErrArg {
				t.Errorf("%d: Append: %d entries, %v", i, n.Len(), e)
			}
		}
		for _, s := range append([]api.Stamp{{}, wrongStamps()[1]}, rising()...) {
			wantSince(t, "a map that may not be", m, s, nil)
		}
		wantPart(t, "of itself, which may not be", m, m, false)
		for _, o := range []book{{}, good, of(t, some()...), m.Put("x", "y")} {
			wantPart(t, "of what may be", m, o, false)
			wantPart(t, "of what may not be", o, m, false)
		}
		for _, l := range [][3]book{{m, good, good}, {good, m, good}, {good, good, m}, {m, m, m}, {m, {}, {}}, {{}, m, {}}, {{}, {}, m}} {
			if n, e := journal.Three(l[0], l[1], l[2]); n.Root() != nil || e != api.ErrArg {
				t.Errorf("%d: Three: %d entries, %v", i, n.Len(), e)
			}
		}
	}
}

// P14.1: a map that was put together by its keys may be, if each is a stamp's and each text may be.
func TestMay(t *testing.T) {
	var m book
	var want []api.Element
	for i, s := range rising() {
		x := api.Element{Stamp: s, Text: texts()[i]}
		m, want = m.Put(keyOf(t, s), x.Text), append(want, x)
		wantJournal(t, "put together", m, want)
		for _, text := range wrongTexts() {
			if journal.May(m.Put(keyOf(t, s), text)) {
				t.Fatalf("with a text of %d bytes under %v it may be", len(text), s)
			}
		}
	}
	for _, key := range wrongKeys(t) {
		if n := m.Put(key, "x"); journal.May(n) || !journal.May(n.Take(key)) {
			t.Fatalf("with the key %q: %v; without it: %v", key, journal.May(n), journal.May(n.Take(key)))
		}
	}
}

// What is handed in stays as it is, spare room included, and is not kept; what is answered is new (DOC.md, the rules).
func TestApart(t *testing.T) {
	l := append(make([]api.Element, 0, 8), entry(3, "x"), entry(1, "y"), entry(2, "x"))
	whole := l[:cap(l)]
	for i := len(l); i < len(whole); i++ {
		whole[i] = entry(9, "spare")
	}
	was := slices.Clone(whole)
	m := of(t, l...)
	if !slices.Equal(whole, was) {
		t.Errorf("Of changed what was handed in: %v", whole)
	}
	clear(whole)
	want := was[:3]
	wantJournal(t, "what Of was handed changed", m, want)
	first, other := elements(t, m), elements(t, m)
	firstTexts, _ := journal.Texts(m)
	otherTexts, _ := journal.Texts(m)
	clear(other[:cap(other)])
	clear(otherTexts[:cap(otherTexts)])
	if !slices.Equal(first, byStamps(want)) || !slices.Equal(firstTexts, []string{"y", "x", "x"}) {
		t.Errorf("answers share memory: %v, %q", first, firstTexts)
	}
	wantJournal(t, "answers changed", m, want)
}
