package register_test

import (
	"math/rand"
	"slices"
	"testing"

	"estuary/api"
	"estuary/kinds"
	"estuary/register"
)

// written is a register behind a write, which must be.
func written(t *testing.T, m reg, x api.Element) reg {
	t.Helper()
	n, e := register.Write(m, x.Stamp, x.Text)
	if e != api.OK {
		t.Fatalf("Write(%v): %v", x, e)
	}
	if text, is := register.One(n); text != x.Text || !is {
		t.Fatalf("One behind Write(%v): %q, %v", x, text, is)
	}
	return n
}

func wantNoWrite(t *testing.T, what string, m reg, s api.Stamp, text string) {
	t.Helper()
	if n, e := register.Write(m, s, text); n.Root() != nil || e != api.ErrArg {
		t.Errorf("Write, %s, of %v, %d bytes: %d elements, %v", what, s, len(text), n.Len(), e)
	}
}

// P12.2: each text, written over none, one and many; the elder register stays as it was.
func TestWrite(t *testing.T) {
	behind := rising()[len(rising())-1]
	for n := range some() {
		l := some()[:n]
		m := of(t, l...)
		for _, text := range texts() {
			x := api.Element{Stamp: behind, Text: text}
			wantRegister(t, "Write", written(t, m, x), []api.Element{x})
		}
		wantRegister(t, "the elder register", m, l)
	}
}

// P12.2: a write whose text is there already is a write, too.
func TestWriteSameText(t *testing.T) {
	m := of(t, element(1, "x"))
	wantRegister(t, "x over x", written(t, m, element(2, "x")), []api.Element{element(2, "x")})
	wantRegister(t, "the elder register", m, []api.Element{element(1, "x")})
}

// P12.2: a stamp must be behind all of the register's: each one against each two.
func TestWriteBehind(t *testing.T) {
	stamps := rising()
	for i, s := range stamps {
		for low := range stamps {
			for high := low; high < len(stamps); high++ {
				l := []api.Element{{Stamp: stamps[high], Text: "x"}}
				if low < high {
					l = append(l, api.Element{Stamp: stamps[low], Text: "y"})
				}
				m := of(t, l...)
				x := api.Element{Stamp: s, Text: "z"}
				if i > high {
					wantRegister(t, "a stamp behind", written(t, m, x), []api.Element{x})
				} else {
					wantNoWrite(t, "ahead, or the same, or amid", m, s, "z")
					wantNoWrite(t, "with a text that is there", m, s, "x")
				}
			}
		}
		written(t, reg{}, api.Element{Stamp: s, Text: "z"})
	}
}

// P12.2: stamps and texts that may not be, over none, one and many.
func TestWriteRefused(t *testing.T) {
	for _, l := range [][]api.Element{nil, {element(1, "x")}, some()} {
		m := of(t, l...)
		for _, s := range wrongStamps() {
			for _, text := range []string{"x", "", wrongTexts()[0]} {
				wantNoWrite(t, "a stamp that may not be", m, s, text)
			}
		}
		for _, text := range wrongTexts() {
			wantNoWrite(t, "a text that is too long", m, at(9), text)
			wantNoWrite(t, "both", m, api.Stamp{}, text)
		}
		wantRegister(t, "refused", m, l)
	}
}

// P12.2: One of none, of one, of two.
func TestOne(t *testing.T) {
	for _, text := range texts() {
		for n := range 4 {
			var l []api.Element
			for i := range n {
				l = append(l, element(int64(i+1), text))
			}
			want := ""
			if n == 1 {
				want = text
			}
			if got, is := register.One(of(t, l...)); got != want || is != (n == 1) {
				t.Fatalf("One of %d of %d bytes: %q, %v", n, len(text), got, is)
			}
		}
	}
}

// P12.2: it may be left behind each turn, and begins anew the next time.
func TestAllLeft(t *testing.T) {
	l := byStamps(some())
	all := register.All(of(t, l...))
	for stop := range l {
		var told []api.Element
		all(func(s api.Stamp, text string) bool {
			told = append(told, api.Element{Stamp: s, Text: text})
			return len(told) <= stop
		})
		if !slices.Equal(told, l[:stop+1]) {
			t.Errorf("left at turn %d: %v", stop+1, told)
		}
	}
	for s, text := range all {
		if s != l[0].Stamp || text != l[0].Text {
			t.Errorf("after it was left it begins with %v, %q", s, text)
		}
		break
	}
}

// P12.2: it may be gone through while it is being gone through, and tells what the register was.
func TestAllWithin(t *testing.T) {
	l := []api.Element{element(1, "x"), element(2, ""), element(3, "x")}
	m := of(t, l...)
	all, n := register.All(m), m
	turns := 0
	for s, text := range all {
		if s != l[turns].Stamp || text != l[turns].Text {
			t.Fatalf("turn %d: %v, %q", turns, s, text)
		}
		within := 0
		for s, text := range all {
			if s != l[within].Stamp || text != l[within].Text {
				t.Fatalf("turn %d within turn %d: %v, %q", within, turns, s, text)
			}
			within++
		}
		turns++
		n = written(t, n, element(int64(3+turns), "new"))
	}
	if turns != len(l) {
		t.Errorf("%d turns", turns)
	}
}

// P12.2: writes and questions by chance, held against a plain list, and against layer 9's write; elder registers stay as they were.
func TestChance(t *testing.T) {
	type elder struct {
		m reg
		l []api.Element
	}
	for seed := range int64(8) {
		chance := rand.New(rand.NewSource(seed))
		kept := []elder{{}, {of(t, some()...), some()}, {of(t, some()[:3]...), some()[:3]}}
		for range 200 {
			now := kept[chance.Intn(len(kept))]
			x := api.Element{Stamp: stampOf(1+chance.Int63n(9), chance.Intn(3), "a", 1+chance.Int63n(3), chance.Intn(3)), Text: texts()[chance.Intn(len(texts()))]}
			v, e := kinds.Apply(api.Value{Kind: api.Register, Elements: byStamps(now.l)}, x.Stamp, api.Op{Kind: api.Register, Key: "k", Do: api.DoWrite, Text: x.Text})
			if e != api.OK {
				wantNoWrite(t, "as layer 9", now.m, x.Stamp, x.Text)
				continue
			}
			m := written(t, now.m, x)
			wantRegister(t, "as layer 9", m, v.Elements)
			wantRegister(t, "by chance", m, []api.Element{x})
			kept = append(kept, elder{m, []api.Element{x}})
		}
		if len(kept) < 20 {
			t.Errorf("just %d writes went", len(kept))
		}
		for _, e := range kept {
			wantRegister(t, "an elder register", e.m, e.l)
		}
	}
}
