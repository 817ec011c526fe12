package journal_test

import (
	"math"
	"math/rand"
	"slices"
	"testing"

	"estuary/api"
	"estuary/journal"
	"estuary/kinds"
)

// appended is a journal behind an append, which must be.
func appended(t *testing.T, m book, x api.Element) book {
	t.Helper()
	n, e := journal.Append(m, x.Stamp, x.Text)
	if e != api.OK {
		t.Fatalf("Append(%v): %v", x, e)
	}
	return n
}

func wantNoAppend(t *testing.T, what string, m book, s api.Stamp, text string) {
	t.Helper()
	if n, e := journal.Append(m, s, text); n.Root() != nil || e != api.ErrArg {
		t.Errorf("Append, %s, of %v, %d bytes: %d entries, %v", what, s, len(text), n.Len(), e)
	}
}

func wantAt(t *testing.T, what string, m book, i int, want api.Element) {
	t.Helper()
	if x, has := journal.At(m, i); x != want || !has {
		t.Fatalf("%s: At(%d): %v, %v, not %v", what, i, x, has, want)
	}
}

func wantNoneAt(t *testing.T, what string, m book, i int) {
	t.Helper()
	if x, has := journal.At(m, i); x != (api.Element{}) || has {
		t.Fatalf("%s: At(%d) of %d: %v, %v", what, i, m.Len(), x, has)
	}
}

// P14.2, P14.4: each text, appended to none, one and many; the elder journal stays as it was, and is a part of the later one.
func TestAppend(t *testing.T) {
	for n := range some() {
		l := some()[:n]
		m := of(t, l...)
		for _, text := range texts() {
			x := api.Element{Stamp: greatest(), Text: text}
			longer := appended(t, m, x)
			wantJournal(t, "Append", longer, append(slices.Clone(l), x))
			wantPart(t, "of the later one", m, longer, true)
			wantPart(t, "of the elder one", longer, m, false)
		}
		wantJournal(t, "the elder journal", m, l)
	}
}

// P14.2: one text appended again and again is an entry each time.
func TestAppendSameText(t *testing.T) {
	var m book
	var l []api.Element
	for gen := range int64(70) {
		x := entry(gen+1, "x")
		m, l = appended(t, m, x), append(l, x)
		wantJournal(t, "x behind x", m, l)
	}
}

// P14.2: a stamp must be behind all of the journal's: each one against each two.
func TestAppendBehind(t *testing.T) {
	stamps := rising()
	for i, s := range stamps {
		for low := range stamps {
			for high := low; high < len(stamps); high++ {
				l := []api.Element{{Stamp: stamps[high], Text: "x"}}
				if low < high {
					l = append(l, api.Element{Stamp: stamps[low], Text: "y"})
				}
				m := of(t, l...)
				if i > high {
					x := api.Element{Stamp: s, Text: "z"}
					wantJournal(t, "a stamp behind", appended(t, m, x), append(slices.Clone(l), x))
				} else {
					wantNoAppend(t, "ahead, or the same, or amid", m, s, "z")
					wantNoAppend(t, "with a text that is there", m, s, "x")
				}
				wantJournal(t, "the elder journal", m, l)
			}
		}
		x := api.Element{Stamp: s, Text: "z"}
		wantJournal(t, "the only one", appended(t, book{}, x), []api.Element{x})
	}
}

// P14.2: stamps and texts that may not be, behind none, one and many.
func TestAppendRefused(t *testing.T) {
	for _, l := range [][]api.Element{nil, {entry(1, "x")}, some()} {
		m := of(t, l...)
		for _, s := range wrongStamps() {
			for _, text := range []string{"x", "", wrongTexts()[0]} {
				wantNoAppend(t, "a stamp that may not be", m, s, text)
			}
		}
		for _, text := range wrongTexts() {
			wantNoAppend(t, "a text that is too long", m, at(9), text)
			wantNoAppend(t, "both", m, api.Stamp{}, text)
		}
		wantJournal(t, "refused", m, l)
	}
}

// P14.2: each place, and places where there is none, of none, one, two and many.
func TestAt(t *testing.T) {
	for _, l := range [][]api.Element{nil, {entry(1, "x")}, {entry(1, "x"), entry(2, "x")}, byStamps(some())} {
		m := of(t, l...)
		for i, x := range l {
			wantAt(t, "At", m, i, x)
		}
		for _, i := range []int{math.MinInt, math.MinInt32, -len(l), -2, -1, len(l), len(l) + 1, 1 << 40, math.MaxInt} {
			if i != 0 {
				wantNoneAt(t, "At", m, i)
			}
		}
	}
	wantNoneAt(t, "At of none", book{}, 0)
}

// plain is a journal, with a plain list of its entries, in order.
type plain struct {
	m book
	l []api.Element
}

// tried is what an append makes of both, held against layer 9's; as it was, if both refuse it.
func (p plain) tried(t *testing.T, x api.Element) plain {
	t.Helper()
	v, e := kinds.Apply(api.Value{Kind: api.Journal, Elements: p.l}, x.Stamp, api.Op{Kind: api.Journal, Key: "k", Do: api.DoAppend, Text: x.Text})
	if e != api.OK {
		wantNoAppend(t, "as layer 9", p.m, x.Stamp, x.Text)
		return p
	}
	m := appended(t, p.m, x)
	wantJournal(t, "Append, as layer 9", m, v.Elements)
	wantPart(t, "the elder one", p.m, m, true)
	return plain{m, append(slices.Clone(p.l), x)}
}

// P14.2, P14.3, P14.4: appends by chance, held against a plain list, and against layer 9; elder journals stay as they were, and one is a part of another just if its list says so.
func TestChance(t *testing.T) {
	for seed := range int64(8) {
		chance := rand.New(rand.NewSource(seed))
		kept := []plain{{}, {of(t, some()...), byStamps(some())}, {of(t, some()[:3]...), byStamps(some()[:3])}}
		for step := range int64(120) {
			now := kept[max(0, len(kept)-1-chance.Intn(9))]
			now = now.tried(t, api.Element{Stamp: stampOf(1+max(0, step-3+chance.Int63n(5)), chance.Intn(3), "a", 1+chance.Int63n(3), chance.Intn(3)), Text: texts()[chance.Intn(len(texts()))]})
			wantJournal(t, "by chance", now.m, now.l)
			kept = append(kept, now)
		}
		for _, p := range kept {
			wantJournal(t, "an elder journal", p.m, p.l)
			o := kept[chance.Intn(len(kept))]
			wantPart(t, "by chance", p.m, o.m, allIn(p.l, o.l))
			wantPart(t, "by chance, the other way", o.m, p.m, allIn(o.l, p.l))
		}
	}
}

// P14.2: a journal of many entries, made by appends alone.
func TestMany(t *testing.T) {
	const many = 1500
	var now plain
	for i := range int64(many) {
		x := api.Element{Stamp: stampOf(i/9+1, int(i/3%3), "a", i%3+1, 0), Text: texts()[i%19]}
		now = plain{appended(t, now.m, x), append(now.l, x)}
	}
	wantJournal(t, "many", now.m, now.l)
	for i := 0; i < many; i += 97 {
		wantSince(t, "many", now.m, now.l[i].Stamp, now.l[i+1:])
		wantPart(t, "all but one", now.m.Take(keyOf(t, now.l[i].Stamp)), now.m, true)
		wantPart(t, "of all but one", now.m, now.m.Take(keyOf(t, now.l[i].Stamp)), false)
	}
}
