package tagset_test

import (
	"math/rand"
	"slices"
	"testing"

	"estuary/api"
	"estuary/tagset"
)

// without is a plain list without a text's tags.
func without(l []api.Element, text string) []api.Element {
	return slices.DeleteFunc(slices.Clone(l), func(x api.Element) bool { return x.Text == text })
}

// with is a plain list with a tag, too.
func with(l []api.Element, x api.Element) []api.Element {
	if slices.Contains(l, x) {
		return l
	}
	return append(slices.Clone(l), x)
}

func inserted(t *testing.T, m set, x api.Element) set {
	t.Helper()
	n, e := tagset.Insert(m, x.Stamp, x.Text)
	if e != api.OK || !tagset.Has(n, x.Text) {
		t.Fatalf("Insert(%v): %v, Has %v", x, e, tagset.Has(n, x.Text))
	}
	return n
}

func removed(t *testing.T, m set, text string, many int) set {
	t.Helper()
	n, gone, e := tagset.Remove(m, text)
	if e != api.OK || gone != many || tagset.Has(n, text) {
		t.Fatalf("Remove(%q): %d, not %d, %v, Has %v", text, gone, many, e, tagset.Has(n, text))
	}
	return n
}

// P11.2, P11.3, P11.5: each text with each stamp, one by one, then each text taken away.
func TestInsertRemove(t *testing.T) {
	var m set
	var l []api.Element
	for i, text := range texts() {
		for j := range i%3 + 1 {
			x := api.Element{Stamp: rising()[(i+j)%len(rising())], Text: text}
			m, l = inserted(t, m, x), with(l, x)
			wantSet(t, "Insert", m, l)
		}
	}
	for i := range texts() {
		text := texts()[(i*7)%len(texts())]
		many := len(stampsOf(l, text))
		m, l = removed(t, m, text, many), without(l, text)
		wantSet(t, "Remove", m, l)
	}
	if i := len(texts()); i%7 == 0 || m.Root() != nil {
		t.Errorf("%d texts: %d tags are left", i, m.Len())
	}
}

// P11.2: a tag that is there.
func TestInsertAgain(t *testing.T) {
	l := some()
	m := of(t, l...)
	for _, x := range l {
		wantSet(t, "a tag that is there", inserted(t, m, x), l)
	}
}

// P11.2: of a text that is not there the same map.
func TestRemoveNone(t *testing.T) {
	for _, text := range texts() {
		m := of(t, without(some(), text)...)
		for _, m := range []set{m, {}} {
			if n := removed(t, m, text, 0); !n.Same(m) {
				t.Errorf("Remove of %q, which is not there: another map", text)
			}
		}
	}
}

// P11.2, P11.5: just the tags of that text go, whatever its neighbours are.
func TestRemoveOne(t *testing.T) {
	l := some()
	m := of(t, l...)
	for _, text := range texts() {
		wantSet(t, "Remove", removed(t, m, text, len(stampsOf(l, text))), without(l, text))
		wantSet(t, "the elder set", m, l)
	}
}

// P11.2, P11.3: texts that are too long, stamps that may not be.
func TestChangeRefused(t *testing.T) {
	for _, m := range []set{of(t, some()...), {}} {
		was := elements(t, m)
		for _, text := range wrongTexts() {
			if n, e := tagset.Insert(m, at(9), text); n.Root() != nil || e != api.ErrArg {
				t.Errorf("Insert of %d bytes: %d tags, %v", len(text), n.Len(), e)
			}
			if n, gone, e := tagset.Remove(m, text); n.Root() != nil || gone != 0 || e != api.ErrArg {
				t.Errorf("Remove of %d bytes: %d tags, %d, %v", len(text), n.Len(), gone, e)
			}
			if l := tagset.Tags(m, text); tagset.Has(m, text) || len(l) != 0 {
				t.Errorf("of %d bytes: Has %v, Tags %v", len(text), tagset.Has(m, text), l)
			}
		}
		for _, s := range wrongStamps() {
			for _, text := range []string{"x", "", "a", wrongTexts()[0]} {
				if n, e := tagset.Insert(m, s, text); n.Root() != nil || e != api.ErrArg {
					t.Errorf("Insert of the stamp %v: %d tags, %v", s, n.Len(), e)
				}
			}
		}
		wantSet(t, "refused", m, was)
	}
}

// P11.2, P11.3, P11.5: inserts and removes by chance, held against a plain list; elder sets stay as they were.
func TestChance(t *testing.T) {
	type elder struct {
		m    set
		tags []api.Element
	}
	few := []string{"", "\x00", "\x00\x00", "\x01", "x", "x\x00", "x\x00\x01", "x\x01", "xy", "y"}
	for seed := range int64(8) {
		chance := rand.New(rand.NewSource(seed))
		kept := []elder{{}}
		for range 150 {
			now := kept[len(kept)-1]
			if chance.Intn(10) == 0 {
				now = kept[chance.Intn(len(kept))]
			}
			text := few[chance.Intn(len(few))]
			if chance.Intn(4) == 0 {
				now = elder{removed(t, now.m, text, len(stampsOf(now.tags, text))), without(now.tags, text)}
			} else {
				x := api.Element{Stamp: stampOf(1+chance.Int63n(3), chance.Intn(2), "a", 1, chance.Intn(3)), Text: text}
				now = elder{inserted(t, now.m, x), with(now.tags, x)}
			}
			wantSet(t, "by chance", now.m, now.tags)
			kept = append(kept, now)
		}
		for _, e := range kept {
			wantSet(t, "an elder set", e.m, e.tags)
		}
	}
}

// P11.3: it may be left behind each turn, and begins anew the next time.
func TestAllLeft(t *testing.T) {
	l := some()
	m := of(t, l...)
	all := tagset.All(m)
	for stop, text := range textsOf(l) {
		turns, last := 0, ""
		all(func(text string, stamps []api.Stamp) bool {
			turns, last = turns+1, text
			if !slices.Equal(stamps, stampsOf(l, text)) {
				t.Errorf("of %q: %v", text, stamps)
			}
			return turns <= stop
		})
		if turns != stop+1 || last != text {
			t.Errorf("left at turn %d: %d turns, the last one of %q, not %q", stop+1, turns, last, text)
		}
	}
	for text := range all {
		if text != textsOf(l)[0] {
			t.Errorf("after it was left it begins with %q", text)
		}
		break
	}
}

// P11.3: it may be gone through while it is being gone through, and tells what the set was.
func TestAllWithin(t *testing.T) {
	l := []api.Element{tag(1, "x"), tag(2, "x"), tag(3, "y"), tag(4, ""), tag(5, "y\x00")}
	m := of(t, l...)
	all, n := tagset.All(m), m
	left := textsOf(l)
	for text, stamps := range all {
		for inner, innerStamps := range all {
			if !slices.Equal(innerStamps, stampsOf(l, inner)) {
				t.Errorf("within itself: %q, %v", inner, innerStamps)
			}
			clear(innerStamps[:cap(innerStamps)])
		}
		n = removed(t, n, text, len(stamps))
		if text != left[0] || !slices.Equal(stamps, stampsOf(l, text)) {
			t.Errorf("it tells %q, %v", text, stamps)
		}
		left = left[1:]
	}
	if len(left) > 0 || n.Root() != nil {
		t.Errorf("not told: %q; %d tags are left", left, n.Len())
	}
}
