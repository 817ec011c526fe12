package register_test

import (
	"math"
	"math/rand"
	"slices"
	"strings"
	"testing"

	"estuary/api"
	"estuary/pmap"
	"estuary/register"
	"estuary/stamp"
)

type reg = pmap.Map[string]

// at is a stamp of a generation.
func at(gen int64) api.Stamp { return stampOf(gen, 0, "a", 1, 0) }

func stampOf(gen int64, repo int, label string, number int64, index int) api.Stamp {
	return api.Stamp{Gen: gen, Name: api.Name{Branch: api.Branch{Repo: repo, Label: label}, Number: number}, Index: index}
}

// element is one of a generation.
func element(gen int64, text string) api.Element { return api.Element{Stamp: at(gen), Text: text} }

// rising is stamps that differ from their neighbours in one field more or less, in order, from the least one to the greatest.
func rising() []api.Stamp {
	return []api.Stamp{
		stampOf(1, 0, "a", 1, 0), stampOf(1, 0, "a", 1, 1), stampOf(1, 0, "a", 1, api.MaxOps-1), stampOf(1, 0, "a", 2, 0), stampOf(1, 0, "a", 255, 0), stampOf(1, 0, "a", 256, 0), stampOf(1, 0, "a", api.MaxNumber, api.MaxOps-1),
		stampOf(1, 0, "aa", 1, 0), stampOf(1, 0, "b", 1, 0), stampOf(1, 0, "ba", 1, 0), stampOf(1, 1, "a", 1, 0), stampOf(1, api.MaxRepos-1, "a", 1, 0),
		stampOf(2, 0, "a", 1, 0), stampOf(3, 0, "a", 1, 0), stampOf(255, 0, "a", 1, 0), stampOf(256, 0, "a", 1, 0), stampOf(1<<32, 0, "a", 1, 0), stampOf(api.MaxNumber, api.MaxRepos-1, "zzzzzzzzzzzz", api.MaxNumber, api.MaxOps-1),
	}
}

// wrongStamps is stamps that may not be.
func wrongStamps() []api.Stamp {
	return []api.Stamp{
		{}, stampOf(0, 0, "a", 1, 0), stampOf(-1, 0, "a", 1, 0), stampOf(api.MaxNumber+1, 0, "a", 1, 0), stampOf(math.MinInt64, 0, "a", 1, 0), stampOf(math.MaxInt64, 0, "a", 1, 0),
		stampOf(9, -1, "a", 1, 0), stampOf(9, api.MaxRepos, "a", 1, 0), stampOf(9, 256, "a", 1, 0), stampOf(9, 0, "", 1, 0), stampOf(9, 0, "A", 1, 0), stampOf(9, 0, "a\x00", 1, 0), stampOf(9, 0, "aaaaaaaaaaaaa", 1, 0),
		stampOf(9, 0, "a", 0, 0), stampOf(9, 0, "a", -1, 0), stampOf(9, 0, "a", api.MaxNumber+1, 0), stampOf(9, 0, "a", 1, -1), stampOf(9, 0, "a", 1, api.MaxOps), stampOf(9, 0, "a", 1, 256),
	}
}

// texts is texts that may be: of no bytes and of as many as may be, with any bytes.
func texts() []string {
	l := []string{"", "\x00", "\x00\x00", "\x00\x01", "a", "a\x00", "ab", "b", "a/b", "two words", "é", "\xff", "\xff\xff"}
	for _, c := range []string{"\x00", "a", "\xff"} {
		l = append(l, strings.Repeat(c, api.MaxText-1), strings.Repeat(c, api.MaxText))
	}
	return append(l, strings.Repeat("é", api.MaxText/2))
}

// wrongTexts is texts that are too long, by their bytes if not by their runes.
func wrongTexts() []string {
	l := []string{strings.Repeat("é", api.MaxText/2) + "x", strings.Repeat("é", api.MaxText)}
	for _, c := range []string{"\x00", "a", "\xff"} {
		l = append(l, strings.Repeat(c, api.MaxText+1), strings.Repeat(c, 1<<16))
	}
	return l
}

func keyOf(t *testing.T, s api.Stamp) string {
	t.Helper()
	key, e := stamp.Key(s)
	if e != api.OK {
		t.Fatalf("no key of the stamp %v: %v", s, e)
	}
	return key
}

// of is the register of some elements, which must be.
func of(t *testing.T, l ...api.Element) reg {
	t.Helper()
	m, e := register.Of(l...)
	if e != api.OK {
		t.Fatalf("Of(%v): %v", l, e)
	}
	return m
}

func elements(t *testing.T, m reg) []api.Element {
	t.Helper()
	l, e := register.Elements(m)
	if e != api.OK {
		t.Fatalf("Elements: %v", e)
	}
	return l
}

// byStamps is elements by stamps.
func byStamps(l []api.Element) []api.Element {
	l = slices.Clone(l)
	slices.SortFunc(l, func(x, y api.Element) int { return stamp.Cmp(x.Stamp, y.Stamp) })
	return l
}

// wantRegister asks a register for all that it tells, and holds it against a plain list of elements in any order.
func wantRegister(t *testing.T, what string, m reg, want []api.Element) {
	t.Helper()
	want = byStamps(want)
	if !register.May(m) || m.Len() != len(want) {
		t.Fatalf("%s: may be: %v, %d elements, not %d", what, register.May(m), m.Len(), len(want))
	}
	if got := elements(t, m); !slices.Equal(got, want) {
		t.Fatalf("%s: %v, not %v", what, got, want)
	}
	var plain []string
	for _, x := range want {
		plain = append(plain, x.Text)
		if text, has := m.Get(keyOf(t, x.Stamp)); !has || text != x.Text {
			t.Fatalf("%s: under the key of %v: %q, %v", what, x, text, has)
		}
	}
	if got, e := register.Texts(m); !slices.Equal(got, plain) || e != api.OK {
		t.Fatalf("%s: Texts: %q, %v, not %q", what, got, e, plain)
	}
	alone := append(plain, "")[0]
	if len(plain) > 1 {
		alone = ""
	}
	if text, is := register.One(m); text != alone || is != (len(plain) == 1) {
		t.Fatalf("%s: One of %d: %q, %v", what, len(plain), text, is)
	}
	wantAll(t, what, m, want)
}

// wantAll goes over all, and asks for a list of elements.
func wantAll(t *testing.T, what string, m reg, want []api.Element) {
	t.Helper()
	var told []api.Element
	for s, text := range register.All(m) {
		told = append(told, api.Element{Stamp: s, Text: text})
	}
	if !slices.Equal(told, want) {
		t.Fatalf("%s: All tells %v, not %v", what, told, want)
	}
}

// some is elements of all texts, whose stamps rise otherwise than their texts do.
func some() []api.Element {
	var l []api.Element
	for i, text := range texts() {
		l = append(l, api.Element{Stamp: stampOf(int64(i*7%5+1), i%3, "a", int64(i+1), i%2), Text: text})
	}
	return l
}

// P12.1, P12.2: the chapter's examples.
func TestExamples(t *testing.T) {
	m := of(t, element(2, "b"), element(1, "a"))
	if l, e := register.Texts(m); !slices.Equal(l, []string{"a", "b"}) || e != api.OK {
		t.Errorf("Texts: %q, %v", l, e)
	}
	if text, is := register.One(m); text != "" || is {
		t.Errorf("One of two: %q, %v", text, is)
	}
	if text, is := register.One(of(t, element(1, "a"))); text != "a" || !is {
		t.Errorf("One of one: %q, %v", text, is)
	}
	n, e := register.Write(m, at(3), "c")
	if l := elements(t, n); !slices.Equal(l, []api.Element{element(3, "c")}) || e != api.OK {
		t.Errorf("behind Write: %v, %v", l, e)
	}
	if m, e := register.Of(element(1, "a"), element(1, "b")); m.Root() != nil || e != api.ErrArg {
		t.Errorf("Of one stamp twice: %d elements, %v", m.Len(), e)
	}
}

// P12.1: the register of no elements.
func TestOfNone(t *testing.T) {
	for _, m := range []reg{of(t), of(t, nil...), of(t, []api.Element{}...), {}} {
		if m.Root() != nil {
			t.Errorf("a register of none has %d elements", m.Len())
		}
		wantRegister(t, "of none", m, nil)
	}
}

// P12.1, P12.2: each text under each stamp, alone.
func TestOfOne(t *testing.T) {
	for _, text := range texts() {
		for _, s := range rising() {
			x := api.Element{Stamp: s, Text: text}
			wantRegister(t, "of one", of(t, x), []api.Element{x})
		}
	}
}

// P12.1, P12.4: elements in any order; Of of Elements tells the same.
func TestOf(t *testing.T) {
	chance := rand.New(rand.NewSource(12))
	for n := range some() {
		for range 20 {
			l := some()
			chance.Shuffle(len(l), func(i, j int) { l[i], l[j] = l[j], l[i] })
			l = l[:n+1]
			m := of(t, l...)
			wantRegister(t, "Of", m, l)
			wantRegister(t, "Of of Elements", of(t, elements(t, m)...), l)
		}
	}
	var all []api.Element
	for i, s := range rising() {
		all = append(all, api.Element{Stamp: s, Text: texts()[i]})
	}
	slices.Reverse(all)
	wantRegister(t, "stamps that differ in one field", of(t, all...), all)
	one := []api.Element{element(3, "x"), element(1, "x"), element(2, "x")}
	wantRegister(t, "one text thrice", of(t, one...), one)
}

// P12.1: a text, a stamp that may not be, at each place; a stamp twice, with two texts and with one.
func TestOfRefused(t *testing.T) {
	refused := func(what string, wrong api.Element) {
		t.Helper()
		for at := range 4 {
			l := slices.Insert([]api.Element{element(1, "x"), element(2, "y"), element(3, "x")}, at, wrong)
			if m, e := register.Of(l...); m.Root() != nil || e != api.ErrArg {
				t.Errorf("Of with %s at %d: %d elements, %v", what, at, m.Len(), e)
			}
		}
	}
	for _, s := range wrongStamps() {
		refused("a stamp that may not be", api.Element{Stamp: s, Text: "z"})
		if m, e := register.Of(api.Element{Stamp: s}); m.Root() != nil || e != api.ErrArg {
			t.Errorf("Of the stamp %v: %d elements, %v", s, m.Len(), e)
		}
	}
	for _, text := range wrongTexts() {
		refused("a text that is too long", element(9, text))
		if m, e := register.Of(element(1, text)); m.Root() != nil || e != api.ErrArg {
			t.Errorf("Of %d bytes: %d elements, %v", len(text), m.Len(), e)
		}
	}
	for i, text := range []string{"x", "y", "x"} {
		refused("a stamp twice", element(int64(i+1), "z"))
		refused("an element twice", element(int64(i+1), text))
	}
}

// wrongKeys is keys that are no stamp's.
func wrongKeys(t *testing.T) []string {
	s := keyOf(t, stampOf(5, 1, "main", 3, 7))
	l := []string{
		"x", "\x00", s + "\x00", "\x00" + s, s + s, "x" + s, s[1:], "x\x00\x00" + s, // the last one is a tag's
		strings.Repeat("\x00", len(s)), strings.Repeat("\xff", len(s)), strings.Repeat("a", 1<<16),
		strings.ReplaceAll(s, "main", "Main"), strings.ReplaceAll(s, "main", ""), strings.ReplaceAll(s, "main", "mainmainmainm"),
		s[:len(s)-1] + string(rune(api.MaxOps)), strings.Replace(s, "\x05\x01", "\x05\x08", 1), strings.Replace(s, "\x05\x01", "\x00\x01", 1), "\x80" + s[1:], "\xff" + s[1:],
	}
	for n := range s {
		l = append(l, s[:n])
	}
	return l
}

// wrongMaps is maps that may not be: with a key that is no stamp's, or a text that is too long; alone, and ahead of, amid and behind elements.
func wrongMaps(t *testing.T) []reg {
	few := of(t, element(1, "x"), element(6, "y"))
	var l []reg
	for _, key := range wrongKeys(t) {
		l = append(l, reg{}.Put(key, "x"), reg{}.Put(key, ""), few.Put(key, "x"), of(t, some()...).Put(key, "x"))
	}
	for _, text := range wrongTexts() {
		l = append(l, reg{}.Put(keyOf(t, at(1)), text))
		for gen := range int64(7) {
			l = append(l, few.Put(keyOf(t, at(gen+1)), text))
		}
	}
	return append(l, reg{}.Put("", ""), reg{}.Put("x", wrongTexts()[0]))
}

// P12.1, P12.2, P12.3: what each call answers of maps that may not be.
func TestWrongMaps(t *testing.T) {
	good := of(t, element(1, "x"))
	behind := rising()[len(rising())-1]
	for i, m := range wrongMaps(t) {
		if register.May(m) {
			t.Fatalf("%d: it may be", i)
		}
		if l, e := register.Elements(m); len(l) != 0 || e != api.ErrArg {
			t.Errorf("%d: Elements: %v, %v", i, l, e)
		}
		if l, e := register.Texts(m); len(l) != 0 || e != api.ErrArg {
			t.Errorf("%d: Texts: %v, %v", i, l, e)
		}
		if text, is := register.One(m); text != "" || is {
			t.Errorf("%d: One: %q, %v", i, text, is)
		}
		for _, s := range []api.Stamp{at(1), at(9), behind} {
			if n, e := register.Write(m, s, "x"); n.Root() != nil || e != api.ErrArg {
				t.Errorf("%d: Write: %d elements, %v", i, n.Len(), e)
			}
		}
		all := register.All(m)
		if all == nil {
			t.Fatalf("%d: no function", i)
		}
		for s, text := range all {
			t.Errorf("%d: All tells %v, %q", i, s, text)
		}
		for _, l := range [][3]reg{{m, good, good}, {good, m, good}, {good, good, m}, {m, m, m}, {m, {}, {}}, {{}, m, {}}, {{}, {}, m}} {
			if n, e := register.Three(l[0], l[1], l[2]); n.Root() != nil || e != api.ErrArg {
				t.Errorf("%d: Three: %d elements, %v", i, n.Len(), e)
			}
		}
	}
}

// P12.1: a map that was put together by its keys may be, if each is a stamp's and each text may be.
func TestMay(t *testing.T) {
	var m reg
	var want []api.Element
	for i, s := range rising() {
		x := api.Element{Stamp: s, Text: texts()[i]}
		m, want = m.Put(keyOf(t, s), x.Text), append(want, x)
		wantRegister(t, "put together", m, want)
		for _, text := range wrongTexts() {
			if register.May(m.Put(keyOf(t, s), text)) {
				t.Fatalf("with a text of %d bytes under %v it may be", len(text), s)
			}
		}
	}
	for _, key := range wrongKeys(t) {
		if n := m.Put(key, "x"); register.May(n) || !register.May(n.Take(key)) {
			t.Fatalf("with the key %q: %v; without it: %v", key, register.May(n), register.May(n.Take(key)))
		}
	}
}

// What is handed in stays as it is, spare room included, and is not kept; what is answered is new (DOC.md, the rules).
func TestApart(t *testing.T) {
	l := append(make([]api.Element, 0, 8), element(3, "x"), element(1, "y"), element(2, "x"))
	whole := l[:cap(l)]
	for i := len(l); i < len(whole); i++ {
		whole[i] = element(9, "spare")
	}
	was := slices.Clone(whole)
	m := of(t, l...)
	if !slices.Equal(whole, was) {
		t.Errorf("Of changed what was handed in: %v", whole)
	}
	clear(whole)
	want := was[:3]
	wantRegister(t, "what Of was handed changed", m, want)
	first, other := elements(t, m), elements(t, m)
	firstTexts, _ := register.Texts(m)
	otherTexts, _ := register.Texts(m)
	clear(other[:cap(other)])
	clear(otherTexts[:cap(otherTexts)])
	if !slices.Equal(first, byStamps(want)) || !slices.Equal(firstTexts, []string{"y", "x", "x"}) {
		t.Errorf("answers share memory: %v, %q", first, firstTexts)
	}
	wantRegister(t, "answers changed", m, want)
}
