package tagset_test

import (
	"cmp"
	"math/rand"
	"slices"
	"strings"
	"testing"

	"estuary/api"
	"estuary/pmap"
	"estuary/stamp"
	"estuary/tagset"
)

type set = pmap.Map[string]

// tag is an element of a generation.
func tag(gen int64, text string) api.Element { return api.Element{Stamp: at(gen), Text: text} }

// of is the set of some tags, which must be.
func of(t *testing.T, l ...api.Element) set {
	t.Helper()
	m, e := tagset.Of(l...)
	if e != api.OK {
		t.Fatalf("Of(%v): %v", l, e)
	}
	return m
}

func elements(t *testing.T, m set) []api.Element {
	t.Helper()
	l, e := tagset.Elements(m)
	if e != api.OK {
		t.Fatalf("Elements: %v", e)
	}
	return l
}

// byStamps is tags by stamps, of one stamp by texts.
func byStamps(l []api.Element) []api.Element {
	l = slices.Clone(l)
	slices.SortFunc(l, func(x, y api.Element) int {
		return cmp.Or(stamp.Cmp(x.Stamp, y.Stamp), strings.Compare(x.Text, y.Text))
	})
	return l
}

// stampsOf is the stamps of a text in a plain list of tags.
func stampsOf(l []api.Element, text string) []api.Stamp {
	var stamps []api.Stamp
	for _, x := range byStamps(l) {
		if x.Text == text {
			stamps = append(stamps, x.Stamp)
		}
	}
	return stamps
}

// textsOf is the texts of a plain list of tags.
func textsOf(l []api.Element) []string {
	var texts []string
	for _, x := range l {
		texts = append(texts, x.Text)
	}
	slices.Sort(texts)
	return slices.Compact(texts)
}

// wantSet asks a set for all that it tells, and holds it against a plain list of tags in any order.
func wantSet(t *testing.T, what string, m set, want []api.Element) {
	t.Helper()
	if !tagset.May(m) || m.Len() != len(want) {
		t.Fatalf("%s: may be: %v, %d tags, not %d", what, tagset.May(m), m.Len(), len(want))
	}
	if got := elements(t, m); !slices.Equal(got, byStamps(want)) {
		t.Fatalf("%s: %v, not %v", what, got, byStamps(want))
	}
	for _, x := range want {
		if text, has := m.Get(plainKey(t, x.Text, x.Stamp)); !has || text != x.Text {
			t.Fatalf("%s: under the key of %v: %q, %v", what, x, text, has)
		}
	}
	all := textsOf(want)
	if got, e := tagset.Texts(m); !slices.Equal(got, all) || e != api.OK {
		t.Fatalf("%s: Texts: %q, %v, not %q", what, got, e, all)
	}
	for _, text := range append(textsOf(want), "", "x", "no such", "\x00", "x\x00", wrongTexts()[0]) {
		stamps := stampsOf(want, text)
		if got := tagset.Tags(m, text); !slices.Equal(got, stamps) || tagset.Has(m, text) != (len(stamps) > 0) {
			t.Fatalf("%s: of %q: Tags %v, Has %v, not %v", what, text, got, tagset.Has(m, text), stamps)
		}
	}
	wantAll(t, what, m, want)
}

// wantAll goes over all, and asks for the texts of a plain list with their stamps.
func wantAll(t *testing.T, what string, m set, want []api.Element) {
	t.Helper()
	left := textsOf(want)
	for text, stamps := range tagset.All(m) {
		if len(left) == 0 || text != left[0] || !slices.Equal(stamps, stampsOf(want, text)) {
			t.Fatalf("%s: All tells %q, %v; left: %q", what, text, stamps, left)
		}
		left = left[1:]
	}
	if len(left) > 0 {
		t.Fatalf("%s: All does not tell %q", what, left)
	}
}

// some is tags of many texts, a stamp each, several tags of some texts.
func some() []api.Element {
	var l []api.Element
	for i, text := range texts() {
		for j := range i%4 + 1 {
			l = append(l, api.Element{Stamp: stampOf(int64(i*j%5+1), j, "a", int64(i+1), 0), Text: text})
		}
	}
	return l
}

// P11.1, P11.2, P11.3: the chapter's examples.
func TestExamples(t *testing.T) {
	m := of(t, tag(2, "x"), tag(1, "y"))
	if l, e := tagset.Texts(m); !slices.Equal(l, []string{"x", "y"}) || e != api.OK {
		t.Errorf("Texts: %q, %v", l, e)
	}
	if l := tagset.Tags(m, "x"); !slices.Equal(l, []api.Stamp{at(2)}) || tagset.Has(m, "z") {
		t.Errorf("Tags of x: %v; Has z: %v", l, tagset.Has(m, "z"))
	}
	n, e := tagset.Insert(m, at(3), "x")
	if l := tagset.Tags(n, "x"); !slices.Equal(l, []api.Stamp{at(2), at(3)}) || e != api.OK {
		t.Errorf("behind Insert: %v, %v", l, e)
	}
	o, gone, e := tagset.Remove(n, "x")
	if l, _ := tagset.Texts(o); !slices.Equal(l, []string{"y"}) || gone != 2 || e != api.OK {
		t.Errorf("behind Remove: %q, %d, %v", l, gone, e)
	}
	if m, e := tagset.Of(tag(1, "x"), tag(1, "y")); m.Root() != nil || e != api.ErrArg {
		t.Errorf("Of one stamp twice: %d tags, %v", m.Len(), e)
	}
}

// P11.1: the set of no tags.
func TestOfNone(t *testing.T) {
	for _, m := range []set{of(t), of(t, nil...), of(t, []api.Element{}...), {}} {
		if m.Root() != nil {
			t.Errorf("a set of none has %d tags", m.Len())
		}
		wantSet(t, "of none", m, nil)
	}
}

// P11.1, P11.5: sets of tags in any order; Of of Elements tells the same.
func TestOf(t *testing.T) {
	chance := rand.New(rand.NewSource(11))
	for n := range some() {
		l := some()
		chance.Shuffle(len(l), func(i, j int) { l[i], l[j] = l[j], l[i] })
		l = l[:n+1]
		m := of(t, l...)
		wantSet(t, "Of", m, l)
		wantSet(t, "Of of Elements", of(t, elements(t, m)...), l)
	}
	for _, text := range texts() {
		for _, s := range rising() {
			x := api.Element{Stamp: s, Text: text}
			if got := elements(t, of(t, x)); !slices.Equal(got, []api.Element{x}) {
				t.Fatalf("of one: %v, not %v", got, x)
			}
		}
	}
}

// P11.1: a text, a stamp that may not be, at each place; a stamp twice, with two texts and with one.
func TestOfRefused(t *testing.T) {
	refused := func(what string, wrong api.Element) {
		t.Helper()
		for at := range 4 {
			l := slices.Insert([]api.Element{tag(1, "x"), tag(2, "y"), tag(3, "x")}, at, wrong)
			if m, e := tagset.Of(l...); m.Root() != nil || e != api.ErrArg {
				t.Errorf("Of with %s at %d: %d tags, %v", what, at, m.Len(), e)
			}
		}
	}
	for _, s := range wrongStamps() {
		refused("a stamp that may not be", api.Element{Stamp: s, Text: "z"})
		if m, e := tagset.Of(api.Element{Stamp: s}); m.Root() != nil || e != api.ErrArg {
			t.Errorf("Of the stamp %v: %d tags, %v", s, m.Len(), e)
		}
	}
	for _, text := range wrongTexts() {
		refused("a text that is too long", tag(9, text))
	}
	for gen := range int64(3) {
		refused("a stamp twice", tag(gen+1, "z"))
		refused("a tag twice", tag(gen+1, []string{"x", "y", "x"}[gen]))
	}
}

// P11.1: a map may have one stamp with two texts; of one stamp texts rise.
func TestOneStampTwoTexts(t *testing.T) {
	var want []api.Element
	var m set
	for i, text := range texts() {
		for _, s := range rising()[:1+i%3] {
			want = append(want, api.Element{Stamp: s, Text: text})
			m = m.Put(plainKey(t, text, s), text)
		}
	}
	wantSet(t, "one stamp with many texts", m, want)
	if n, e := tagset.Of(elements(t, m)...); n.Root() != nil || e != api.ErrArg {
		t.Errorf("Of these: %d tags, %v", n.Len(), e)
	}
	n, e := tagset.Insert(of(t, tag(1, "x")), at(1), "a")
	if e != api.OK {
		t.Fatalf("Insert: %v", e)
	}
	wantSet(t, "Insert", n, []api.Element{tag(1, "a"), tag(1, "x")})
	n, gone, e := tagset.Remove(n, "x")
	if gone != 1 || e != api.OK {
		t.Fatalf("Remove: %d, %v", gone, e)
	}
	wantSet(t, "Remove", n, []api.Element{tag(1, "a")})
}

// wrongMaps is maps that may not be: with a key that is no tag's, or a tag's key with another text; alone, and ahead of, amid and behind tags.
func wrongMaps(t *testing.T) []set {
	var l []set
	for _, key := range wrongKeys(t) {
		l = append(l, set{}.Put(key, "x"), set{}.Put(key, ""), set{}.Put(key, key), of(t, some()...).Put(key, "x"))
		text, _, _ := strings.Cut(key, "\x00\x00")
		l = append(l, set{}.Put(key, text), set{}.Put(key, strings.ReplaceAll(text, "\x00\x01", "\x00")))
	}
	for i, text := range texts() {
		key := plainKey(t, text, at(1))
		for _, other := range []string{text + "\x00", text + "x", "x" + text, "\x00" + text, texts()[(i+1)%len(texts())], key} {
			l = append(l, set{}.Put(key, other), of(t, some()...).Put(key, other))
		}
	}
	l = append(l, set{}.Put(plainKey(t, "a\x00", at(1)), "a\x00\x01"), set{}.Put(plainKey(t, "a", at(1)), ""), set{}.Put(plainKey(t, "a", at(1)), "A"))
	good := of(t, tag(1, "m"), tag(2, "m"), tag(3, "n"))
	for _, key := range []string{"", "m", "m\x00\x00", "m\x00\x00\x01", "n", "z"} {
		l = append(l, good.Put(key, "m"))
	}
	return l
}

// P11.1, P11.2, P11.3, P11.4: what each call answers of maps that may not be.
func TestWrongMaps(t *testing.T) {
	good := of(t, tag(1, "x"))
	for i, m := range wrongMaps(t) {
		if tagset.May(m) {
			t.Fatalf("%d: it may be", i)
		}
		if l, e := tagset.Elements(m); len(l) != 0 || e != api.ErrArg {
			t.Errorf("%d: Elements: %v, %v", i, l, e)
		}
		if l, e := tagset.Texts(m); len(l) != 0 || e != api.ErrArg {
			t.Errorf("%d: Texts: %v, %v", i, l, e)
		}
		if n, e := tagset.Insert(m, at(9), "x"); n.Root() != nil || e != api.ErrArg {
			t.Errorf("%d: Insert: %d tags, %v", i, n.Len(), e)
		}
		for _, text := range []string{"x", "", "m", "a", "no such"} {
			if n, gone, e := tagset.Remove(m, text); n.Root() != nil || gone != 0 || e != api.ErrArg {
				t.Errorf("%d: Remove: %d tags, %d gone, %v", i, n.Len(), gone, e)
			}
			if l := tagset.Tags(m, text); tagset.Has(m, text) || len(l) != 0 {
				t.Errorf("%d: of %q: Has %v, Tags %v", i, text, tagset.Has(m, text), l)
			}
		}
		all := tagset.All(m)
		if all == nil {
			t.Fatalf("%d: no function", i)
		}
		for text, stamps := range all {
			t.Errorf("%d: All tells %q, %v", i, text, stamps)
		}
		for _, l := range [][3]set{{m, good, good}, {good, m, good}, {good, good, m}, {m, m, m}, {m, {}, {}}, {{}, m, {}}, {{}, {}, m}} {
			if n, e := tagset.Three(l[0], l[1], l[2]); n.Root() != nil || e != api.ErrArg {
				t.Errorf("%d: Three: %d tags, %v", i, n.Len(), e)
			}
		}
	}
}

// What is handed in stays as it is, spare room included, and is not kept; what is answered is new (DOC.md, the rules).
func TestApart(t *testing.T) {
	l := append(make([]api.Element, 0, 8), tag(3, "x"), tag(1, "y"), tag(2, "x"))
	whole := l[:cap(l)]
	for i := len(l); i < len(whole); i++ {
		whole[i] = tag(9, "spare")
	}
	was := slices.Clone(whole)
	m := of(t, l...)
	if !slices.Equal(whole, was) {
		t.Errorf("Of changed what was handed in: %v", whole)
	}
	clear(whole)
	want := was[:3]
	wantSet(t, "what Of was handed changed", m, want)
	for range 2 {
		elements := elements(t, m)
		clear(elements[:cap(elements)])
		texts, _ := tagset.Texts(m)
		clear(texts[:cap(texts)])
		stamps := tagset.Tags(m, "x")
		clear(stamps[:cap(stamps)])
		wantSet(t, "answers changed", m, want)
	}
	all := tagset.All(m)
	var told [][]api.Stamp
	for range 2 {
		for _, stamps := range all {
			told = append(told, stamps)
		}
	}
	for i, stamps := range told {
		if want := stampsOf(want, []string{"x", "y"}[i%2]); !slices.Equal(stamps, want) {
			t.Errorf("All's list %d: %v, not %v", i, stamps, want)
		}
		clear(stamps[:cap(stamps)])
	}
	wantAll(t, "what All told changed", m, want)
}
