package register_test

import (
	"math/rand"
	"slices"
	"testing"

	"estuary/api"
	"estuary/kinds"
	"estuary/register"
)

// together is what Three makes of three registers.
func together(t *testing.T, base, a, b reg) reg {
	t.Helper()
	m, e := register.Three(base, a, b)
	if e != api.OK {
		t.Fatalf("Three: %v", e)
	}
	return m
}

// wantThree holds Three, either side first, against layer 9's and against a plain list.
func wantThree(t *testing.T, what string, base, a, b reg, want []api.Element) {
	t.Helper()
	value := func(m reg) api.Value { return api.Value{Kind: api.Register, Elements: elements(t, m)} }
	v, e := kinds.Three(value(base), value(a), value(b))
	if e != api.OK || !slices.Equal(v.Elements, byStamps(want)) {
		t.Fatalf("%s: layer 9: %v, %v, not %v", what, v.Elements, e, want)
	}
	wantRegister(t, what, together(t, base, a, b), want)
	wantRegister(t, what+", the other one first", together(t, base, b, a), want)
}

// P12.3, the chapter's example.
func TestThreeExample(t *testing.T) {
	base := of(t, element(1, "a"))
	m := together(t, base, written(t, base, element(2, "b")), written(t, base, element(3, "c")))
	if l, e := register.Texts(m); !slices.Equal(l, []string{"b", "c"}) || e != api.OK {
		t.Errorf("Texts: %q, %v", l, e)
	}
}

// picked is some of a list's elements, a bit each.
func picked(l []api.Element, bits int) []api.Element {
	var some []api.Element
	for i, x := range l {
		if bits>>i&1 == 1 {
			some = append(some, x)
		}
	}
	return some
}

// P12.3, P12.4: all threes of registers out of four elements, made apart from each other.
func TestThreeAll(t *testing.T) {
	l := []api.Element{element(2, "x"), element(1, ""), element(4, "x"), element(3, "y")}
	for base := range 16 {
		for a := range 16 {
			for b := range 16 {
				stays := a&b | (a|b)&^base
				wantThree(t, "Three", of(t, picked(l, base)...), of(t, picked(l, a)...), of(t, picked(l, b)...), picked(l, stays))
			}
		}
	}
}

// P12.3: of a stamp that has two texts the elements' rule says a's, where both sides have it.
func TestThreeOneStamp(t *testing.T) {
	a, b := of(t, element(1, "x")), of(t, element(1, "y"))
	for _, base := range []reg{{}, of(t, element(1, "z")), of(t, element(2, "z"))} {
		wantRegister(t, "x and y", together(t, base, a, b), []api.Element{element(1, "x")})
		wantRegister(t, "y and x", together(t, base, b, a), []api.Element{element(1, "y")})
	}
	base := of(t, element(1, "z"))
	wantRegister(t, "just a has it, and base otherwise", together(t, base, a, reg{}), nil)
	wantRegister(t, "just b has it, and base otherwise", together(t, base, reg{}, b), nil)
}

// P12.4: two writes that do not see each other both stand, and nothing of base does; a write behind both stands alone.
func TestWritesApart(t *testing.T) {
	bases := [][]api.Element{nil, {element(1, "p")}, {element(1, "p"), element(2, "q")}, some()}
	for _, l := range bases {
		base := of(t, l...)
		for i, text := range texts() {
			x := api.Element{Stamp: stampOf(10, 0, "a", 1, 0), Text: text}
			y := api.Element{Stamp: stampOf(10, 1, "a", 1, 0), Text: texts()[i*3%len(texts())]}
			a, b := written(t, base, x), written(t, base, y)
			both := []api.Element{x, y}
			wantThree(t, "two writes", base, a, b, both)
			m := together(t, base, b, a)
			if text, is := register.One(m); text != "" || is {
				t.Fatalf("One of two writes: %q, %v", text, is)
			}
			last := element(11, "last")
			wantRegister(t, "a write behind both", written(t, m, last), []api.Element{last})
			wantThree(t, "a write behind both, run together with what it saw", m, written(t, m, last), m, []api.Element{last})
			wantThree(t, "one side wrote", base, a, base, []api.Element{x})
			for _, s := range []api.Stamp{at(9), x.Stamp, stampOf(10, 0, "b", 1, 0), y.Stamp} {
				wantNoWrite(t, "not behind both", m, s, "z")
			}
			for i, was := range [][]api.Element{l, {x}, {y}, both} {
				wantRegister(t, "the elder register", []reg{base, a, b, m}[i], was)
			}
		}
	}
}

// P12.3: where two of the three are one, the third one is answered as it is.
func TestThreeSame(t *testing.T) {
	m, n := of(t, some()...), of(t, some()[3:9]...)
	for i, l := range [][4]reg{{m, m, m, m}, {m, m, n, n}, {m, n, m, n}, {m, n, n, n}, {{}, {}, m, m}, {{}, m, {}, m}, {m, {}, {}, {}}, {}} {
		if got := together(t, l[0], l[1], l[2]); !got.Same(l[3]) {
			t.Errorf("%d: another map", i)
		}
	}
}

// version is a register, with the writes that its history has.
type version struct {
	m    reg
	seen []api.Element
	gone []api.Element // what the writes among these took away
	gen  int64
}

// wrote is a version behind one more write.
func (v version) wrote(t *testing.T, repo int, text string) version {
	x := api.Element{Stamp: stampOf(v.gen+1, repo, "a", 1, 0), Text: text}
	return version{written(t, v.m, x), append(slices.Clone(v.seen), x), slices.Concat(v.gone, v.seen), v.gen + 1}
}

// left is the writes that none of the history took away.
func (v version) left() []api.Element {
	return slices.DeleteFunc(slices.Clone(v.seen), func(x api.Element) bool { return slices.Contains(v.gone, x) })
}

// merged is two versions run together over one that both are behind.
func merged(t *testing.T, base, a, b version) version {
	seen := slices.Clone(a.seen)
	for _, x := range b.seen {
		if !slices.Contains(seen, x) {
			seen = append(seen, x)
		}
	}
	v := version{together(t, base.m, a.m, b.m), seen, slices.Concat(a.gone, b.gone), max(a.gen, b.gen) + 1}
	wantThree(t, "merged", base.m, a.m, b.m, v.left())
	return v
}

// P12.3, P12.4: sides that write and merge, one base behind the other: all writes are left but those that any write took away; elder registers stay as they were.
func TestThreeHistories(t *testing.T) {
	chance := rand.New(rand.NewSource(3))
	for range 300 {
		var kept []version
		var base version
		for range 6 {
			side := [3]version{base, base, base}
			for range chance.Intn(7) {
				at := chance.Intn(len(side))
				side[at] = side[at].wrote(t, at, texts()[chance.Intn(len(texts()))])
				kept = append(kept, side[at])
			}
			two := merged(t, base, side[0], side[1])
			base = merged(t, base, two, side[2])
			kept = append(kept, two, base)
		}
		for _, v := range kept {
			wantRegister(t, "an elder register", v.m, v.left())
		}
	}
}
