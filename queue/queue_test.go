package queue_test

import (
	"math"
	"math/rand"
	"slices"
	"strings"
	"testing"

	"estuary/api"
	"estuary/pmap"
	"estuary/queue"

	"estuary/stamp"
)

type line = pmap.Map[string]

// at is a stamp of a generation.
func at(gen int64) api.Stamp { return stampOf(gen, 0, "a", 1, 0) }

func stampOf(gen int64, repo int, label string, number int64, index int) api.Stamp {
	return api.Stamp{Gen: gen, Name: api.Name{Branch: api.Branch{Repo: repo, Label: label}, Number: number}, Index: index}
}

// element is one of a generation.
func element(gen int64, text string) api.Element { return api.Element{Stamp: at(gen), Text: text} }

// rising is stamps that differ from their neighbours in one field more or less, in order, from the least one to the greatest.
func rising() []api.Stamp {
	return []api.Stamp{
		stampOf(1, 0, "a", 1, 0), stampOf(1, 0, "a", 1, 1), stampOf(1, 0, "a", 1, api.MaxOps-1), stampOf(1, 0, "a", 2, 0), stampOf(1, 0, "a", 255, 0), stampOf(1, 0, "a", 256, 0), stampOf(1, 0, "a", api.MaxNumber, api.MaxOps-1),
		stampOf(1, 0, "aa", 1, 0), stampOf(1, 0, "b", 1, 0), stampOf(1, 0, "ba", 1, 0), stampOf(1, 1, "a", 1, 0), stampOf(1, api.MaxRepos-1, "a", 1, 0),
		stampOf(2, 0, "a", 1, 0), stampOf(3, 0, "a", 1, 0), stampOf(255, 0, "a", 1, 0), stampOf(256, 0, "a", 1, 0), stampOf(1<<32, 0, "a", 1, 0), stampOf(api.MaxNumber, api.MaxRepos-1, "zzzzzzzzzzzz", api.MaxNumber, api.MaxOps-1),
	}
}

// wrongStamps is stamps that may not be.
func wrongStamps() []api.Stamp {
	return []api.Stamp{
		{}, stampOf(0, 0, "a", 1, 0), stampOf(-1, 0, "a", 1, 0), stampOf(api.MaxNumber+1, 0, "a", 1, 0), stampOf(math.MinInt64, 0, "a", 1, 0), stampOf(math.MaxInt64, 0, "a", 1, 0),
		stampOf(9, -1, "a", 1, 0), stampOf(9, api.MaxRepos, "a", 1, 0), stampOf(9, 256, "a", 1, 0), stampOf(9, 0, "", 1, 0), stampOf(9, 0, "A", 1, 0), stampOf(9, 0, "a\x00", 1, 0), stampOf(9, 0, "aaaaaaaaaaaaa", 1, 0),
		stampOf(9, 0, "a", 0, 0), stampOf(9, 0, "a", -1, 0), stampOf(9, 0, "a", api.MaxNumber+1, 0), stampOf(9, 0, "a", 1, -1), stampOf(9, 0, "a", 1, api.MaxOps), stampOf(9, 0, "a", 1, 256),
	}
}

// texts is texts that may be: of no bytes and of as many as may be, with any bytes.
func texts() []string {
	l := []string{"", "\x00", "\x00\x00", "\x00\x01", "a", "a\x00", "ab", "b", "a/b", "two words", "é", "\xff", "\xff\xff"}
	for _, c := range []string{"\x00", "a", "\xff"} {
		l = append(l, strings.Repeat(c, api.MaxText-1), strings.Repeat(c, api.MaxText))
	}
	return append(l, strings.Repeat("é", api.MaxText/2))
}

// wrongTexts is texts that are too long, by their bytes if not by their runes.
func wrongTexts() []string {
	l := []string{strings.Repeat("é", api.MaxText/2) + "x", strings.Repeat("é", api.MaxText)}
	for _, c := range []string{"\x00", "a", "\xff"} {
		l = append(l, strings.Repeat(c, api.MaxText+1), strings.Repeat(c, 1<<16))
	}
	return l
}

func keyOf(t *testing.T, s api.Stamp) string {
	t.Helper()
	key, e := stamp.Key(s)
	if e != api.OK {
		t.Fatalf("no key of the stamp %v: %v", s, e)
	}
	return key
}

// of is the queue of some elements, which must be.
func of(t *testing.T, l ...api.Element) line {
	t.Helper()
	m, e := queue.Of(l...)
	if e != api.OK {
		t.Fatalf("Of(%v): %v", l, e)
	}
	return m
}

func elements(t *testing.T, m line) []api.Element {
	t.Helper()
	l, e := queue.Elements(m)
	if e != api.OK {
		t.Fatalf("Elements: %v", e)
	}
	return l
}

// byStamps is elements by stamps.
func byStamps(l []api.Element) []api.Element {
	l = slices.Clone(l)
	slices.SortFunc(l, func(x, y api.Element) int { return stamp.Cmp(x.Stamp, y.Stamp) })
	return l
}

// wantQueue asks a queue for all that it tells, and holds it against a plain list of elements in any order.
func wantQueue(t *testing.T, what string, m line, want []api.Element) {
	t.Helper()
	want = byStamps(want)
	if !queue.May(m) || m.Len() != len(want) {
		t.Fatalf("%s: may be: %v, %d elements, not %d", what, queue.May(m), m.Len(), len(want))
	}
	if got := elements(t, m); !slices.Equal(got, want) {
		t.Fatalf("%s: %v, not %v", what, got, want)
	}
	var plain []string
	for _, x := range want {
		plain = append(plain, x.Text)
		if text, has := m.Get(keyOf(t, x.Stamp)); !has || text != x.Text {
			t.Fatalf("%s: under the key of %v: %q, %v", what, x, text, has)
		}
	}
	if got, e := queue.Texts(m); !slices.Equal(got, plain) || e != api.OK {
		t.Fatalf("%s: Texts: %q, %v, not %q", what, got, e, plain)
	}
	wantEnds(t, what, m, want)
	wantAll(t, what, m, want)
}

// wantEnds asks for what First, Pop and Drop tell of a queue, and holds it against a plain list of elements, in order.
func wantEnds(t *testing.T, what string, m line, want []api.Element) {
	t.Helper()
	first, rest := append(want, api.Element{})[0], want[min(1, len(want)):]
	if x, has := queue.First(m); x != first || has != (len(want) > 0) {
		t.Fatalf("%s: First: %v, %v, not %v", what, x, has, first)
	}
	n, x, has := queue.Pop(m)
	if x != first || has != (len(want) > 0) {
		t.Fatalf("%s: Pop: %v, %v, not %v", what, x, has, first)
	}
	if l := elements(t, n); !slices.Equal(l, rest) {
		t.Fatalf("%s: Pop leaves %v, not %v", what, l, rest)
	}
	for _, k := range []int{0, 1, len(want) / 2, len(want) - 1, len(want), len(want) + 1} {
		gone := max(0, min(k, len(want)))
		n, dropped := queue.Drop(m, k)
		if l := elements(t, n); dropped != gone || !slices.Equal(l, want[gone:]) {
			t.Fatalf("%s: Drop of %d: %d, and %v is left", what, k, dropped, l)
		}
	}
}

// wantAll goes over all, and asks for a list of elements.
func wantAll(t *testing.T, what string, m line, want []api.Element) {
	t.Helper()
	var told []api.Element
	for s, text := range queue.All(m) {
		told = append(told, api.Element{Stamp: s, Text: text})
	}
	if !slices.Equal(told, want) {
		t.Fatalf("%s: All tells %v, not %v", what, told, want)
	}
}

// some is elements of all texts, whose stamps rise otherwise than their texts do.
func some() []api.Element {
	var l []api.Element
	for i, text := range texts() {
		l = append(l, api.Element{Stamp: stampOf(int64(i*7%5+1), i%3, "a", int64(i+1), i%2), Text: text})
	}
	return l
}

// P13.1, P13.2, P13.3: the chapter's examples.
func TestExamples(t *testing.T) {
	m := of(t, element(2, "b"), element(1, "a"))
	wantTexts(t, "Of", m, "a", "b")
	if x, has := queue.First(m); x != element(1, "a") || !has {
		t.Errorf("First: %v, %v", x, has)
	}
	if n, e := queue.Push(m, at(1), "c"); n.Root() != nil || e != api.ErrArg {
		t.Errorf("Push of a stamp that is there: %d elements, %v", n.Len(), e)
	}
	wantTexts(t, "Push", pushed(t, m, element(3, "c")), "a", "b", "c")
	n, x, has := queue.Pop(m)
	if x != element(1, "a") || !has {
		t.Errorf("Pop: %v, %v", x, has)
	}
	wantTexts(t, "Pop", n, "b")
	if n, x, has := queue.Pop(line{}); n.Root() != nil || x != (api.Element{}) || has {
		t.Errorf("Pop of an empty one: %d elements, %v, %v", n.Len(), x, has)
	}
	for k, want := range map[int]int{5: 2, -1: 0} {
		if _, dropped := queue.Drop(m, k); dropped != want {
			t.Errorf("Drop of %d: %d", k, dropped)
		}
	}
	wantTexts(t, "Three", together(t, m, n, pushed(t, n, element(3, "c"))), "b", "c")
}

func wantTexts(t *testing.T, what string, m line, want ...string) {
	t.Helper()
	if l, e := queue.Texts(m); !slices.Equal(l, want) || e != api.OK {
		t.Errorf("%s: Texts: %q, %v, not %q", what, l, e, want)
	}
}

// P13.1: the queue of no elements.
func TestOfNone(t *testing.T) {
	for _, m := range []line{of(t), of(t, nil...), of(t, []api.Element{}...), {}} {
		if m.Root() != nil {
			t.Errorf("a queue of none has %d elements", m.Len())
		}
		wantQueue(t, "of none", m, nil)
	}
}

// P13.1, P13.2, P13.3: each text under each stamp, alone.
func TestOfOne(t *testing.T) {
	for _, text := range texts() {
		for _, s := range rising() {
			x := api.Element{Stamp: s, Text: text}
			wantQueue(t, "of one", of(t, x), []api.Element{x})
		}
	}
}

// P13.1, P13.4: elements in any order; Of of Elements tells the same.
func TestOf(t *testing.T) {
	chance := rand.New(rand.NewSource(12))
	for n := range some() {
		for range 20 {
			l := some()
			chance.Shuffle(len(l), func(i, j int) { l[i], l[j] = l[j], l[i] })
			l = l[:n+1]
			m := of(t, l...)
			wantQueue(t, "Of", m, l)
			wantQueue(t, "Of of Elements", of(t, elements(t, m)...), l)
		}
	}
	var all []api.Element
	for i, s := range rising() {
		all = append(all, api.Element{Stamp: s, Text: texts()[i]})
	}
	slices.Reverse(all)
	wantQueue(t, "stamps that differ in one field", of(t, all...), all)
	one := []api.Element{element(3, "x"), element(1, "x"), element(2, "x")}
	wantQueue(t, "one text thrice", of(t, one...), one)
}

// P13.1: a text, a stamp that may not be, at each place; a stamp twice, with two texts and with one.
func TestOfRefused(t *testing.T) {
	refused := func(what string, wrong api.Element) {
		t.Helper()
		for at := range 4 {
			l := slices.Insert([]api.Element{element(1, "x"), element(2, "y"), element(3, "x")}, at, wrong)
			if m, e := queue.Of(l...); m.Root() != nil || e != api.ErrArg {
				t.Errorf("Of with %s at %d: %d elements, %v", what, at, m.Len(), e)
			}
		}
	}
	for _, s := range wrongStamps() {
		refused("a stamp that may not be", api.Element{Stamp: s, Text: "z"})
		if m, e := queue.Of(api.Element{Stamp: s}); m.Root() != nil || e != api.ErrArg {
			t.Errorf("Of the stamp %v: %d elements, %v", s, m.Len(), e)
		}
	}
	for _, text := range wrongTexts() {
		refused("a text that is too long", element(9, text))
		if m, e := queue.Of(element(1, text)); m.Root() != nil || e != api.ErrArg {
			t.Errorf("Of %d bytes: %d elements, %v", len(text), m.Len(), e)
		}
	}
	for i, text := range []string{"x", "y", "x"} {
		refused("a stamp twice", element(int64(i+1), "z"))
		refused("an element twice", element(int64(i+1), text))
	}
}

// wrongKeys is keys that are no stamp's.
func wrongKeys(t *testing.T) []string {
	s := keyOf(t, stampOf(5, 1, "main", 3, 7))
	l := []string{
		"x", "\x00", s + "\x00", "\x00" + s, s + s, "x" + s, s[1:], "x\x00\x00" + s, // the last one is a tag's
		strings.Repeat("\x00", len(s)), strings.Repeat("\xff", len(s)), strings.Repeat("a", 1<<16),
		strings.ReplaceAll(s, "main", "Main"), strings.ReplaceAll(s, "main", ""), strings.ReplaceAll(s, "main", "mainmainmainm"),
		s[:len(s)-1] + string(rune(api.MaxOps)), strings.Replace(s, "\x05\x01", "\x05\x08", 1), strings.Replace(s, "\x05\x01", "\x00\x01", 1), "\x80" + s[1:], "\xff" + s[1:],
	}
	for n := range s {
		l = append(l, s[:n])
	}
	return l
}

// wrongMaps is maps that may not be: with a key that is no stamp's, or a text that is too long; alone, and ahead of, amid and behind elements.
func wrongMaps(t *testing.T) []line {
	few := of(t, element(1, "x"), element(6, "y"))
	var l []line
	for _, key := range wrongKeys(t) {
		l = append(l, line{}.Put(key, "x"), line{}.Put(key, ""), few.Put(key, "x"), of(t, some()...).Put(key, "x"))
	}
	for _, text := range wrongTexts() {
		l = append(l, line{}.Put(keyOf(t, at(1)), text))
		for gen := range int64(7) {
			l = append(l, few.Put(keyOf(t, at(gen+1)), text))
		}
	}
	return append(l, line{}.Put("", ""), line{}.Put("x", wrongTexts()[0]))
}

// P13.1, P13.2, P13.3: what each call answers of maps that may not be.
func TestWrongMaps(t *testing.T) {
	good := of(t, element(1, "x"))
	behind := rising()[len(rising())-1]
	for i, m := range wrongMaps(t) {
		if queue.May(m) {
			t.Fatalf("%d: it may be", i)
		}
		if l, e := queue.Elements(m); len(l) != 0 || e != api.ErrArg {
			t.Errorf("%d: Elements: %v, %v", i, l, e)
		}
		if l, e := queue.Texts(m); len(l) != 0 || e != api.ErrArg {
			t.Errorf("%d: Texts: %v, %v", i, l, e)
		}
		if x, has := queue.First(m); x != (api.Element{}) || has {
			t.Errorf("%d: First: %v, %v", i, x, has)
		}
		if n, x, has := queue.Pop(m); !n.Same(m) || x != (api.Element{}) || has {
			t.Errorf("%d: Pop: the same: %v, %v, %v", i, n.Same(m), x, has)
		}
		for _, k := range []int{math.MinInt, -1, 0, 1, 2, m.Len(), math.MaxInt} {
			if n, dropped := queue.Drop(m, k); !n.Same(m) || dropped != 0 {
				t.Errorf("%d: Drop of %d: the same: %v, %d", i, k, n.Same(m), dropped)
			}
		}
		for _, s := range []api.Stamp{at(1), at(9), behind} {
			if n, e := queue.Push(m, s, "x"); n.Root() != nil || e != api.ErrArg {
				t.Errorf("%d: Push: %d elements, %v", i, n.Len(), e)
			}
		}
		all := queue.All(m)
		if all == nil {
			t.Fatalf("%d: no function", i)
		}
		for s, text := range all {
			t.Errorf("%d: All tells %v, %q", i, s, text)
		}
		for _, l := range [][3]line{{m, good, good}, {good, m, good}, {good, good, m}, {m, m, m}, {m, {}, {}}, {{}, m, {}}, {{}, {}, m}} {
			if n, e := queue.Three(l[0], l[1], l[2]); n.Root() != nil || e != api.ErrArg {
				t.Errorf("%d: Three: %d elements, %v", i, n.Len(), e)
			}
		}
	}
}

// P13.1: a map that was put together by its keys may be, if each is a stamp's and each text may be.
func TestMay(t *testing.T) {
	var m line
	var want []api.Element
	for i, s := range rising() {
		x := api.Element{Stamp: s, Text: texts()[i]}
		m, want = m.Put(keyOf(t, s), x.Text), append(want, x)
		wantQueue(t, "put together", m, want)
		for _, text := range wrongTexts() {
			if queue.May(m.Put(keyOf(t, s), text)) {
				t.Fatalf("with a text of %d bytes under %v it may be", len(text), s)
			}
		}
	}
	for _, key := range wrongKeys(t) {
		if n := m.Put(key, "x"); queue.May(n) || !queue.May(n.Take(key)) {
			t.Fatalf("with the key %q: %v; without it: %v", key, queue.May(n), queue.May(n.Take(key)))
		}
	}
}

// What is handed in stays as it is, spare room included, and is not kept; what is answered is new (DOC.md, the rules).
func TestApart(t *testing.T) {
	l := append(make([]api.Element, 0, 8), element(3, "x"), element(1, "y"), element(2, "x"))
	whole := l[:cap(l)]
	for i := len(l); i < len(whole); i++ {
		whole[i] = element(9, "spare")
	}
	was := slices.Clone(whole)
	m := of(t, l...)
	if !slices.Equal(whole, was) {
		t.Errorf("Of changed what was handed in: %v", whole)
	}
	clear(whole)
	want := was[:3]
	wantQueue(t, "what Of was handed changed", m, want)
	first, other := elements(t, m), elements(t, m)
	firstTexts, _ := queue.Texts(m)
	otherTexts, _ := queue.Texts(m)
	clear(other[:cap(other)])
	clear(otherTexts[:cap(otherTexts)])
	if !slices.Equal(first, byStamps(want)) || !slices.Equal(firstTexts, []string{"y", "x", "x"}) {
		t.Errorf("answers share memory: %v, %q", first, firstTexts)
	}
	wantQueue(t, "answers changed", m, want)
}
