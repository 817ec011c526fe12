package queue_test

import (
	"math/rand"
	"slices"
	"testing"

	"estuary/api"
	"estuary/kinds"
	"estuary/queue"
)

// together is what Three makes of three queues.
func together(t *testing.T, base, a, b line) line {
	t.Helper()
	m, e := queue.Three(base, a, b)
	if e != api.OK {
		t.Fatalf("Three: %v", e)
	}
	return m
}

// wantThree holds Three, either side first, against layer 9's and against a plain list.
func wantThree(t *testing.T, what string, base, a, b line, want []api.Element) {
	t.Helper()
	value := func(m line) api.Value { return api.Value{Kind: api.Queue, Elements: elements(t, m)} }
	v, e := kinds.Three(value(base), value(a), value(b))
	if e != api.OK || !slices.Equal(v.Elements, byStamps(want)) {
		t.Fatalf("%s: layer 9: %v, %v, not %v", what, v.Elements, e, want)
	}
	wantQueue(t, what, together(t, base, a, b), want)
	wantQueue(t, what+", the other one first", together(t, base, b, a), want)
}

// picked is some of a list's elements, a bit each.
func picked(l []api.Element, bits int) []api.Element {
	var some []api.Element
	for i, x := range l {
		if bits>>i&1 == 1 {
			some = append(some, x)
		}
	}
	return some
}

// P13.3, P13.4: all threes of queues out of four elements, made apart from each other.
func TestThreeAll(t *testing.T) {
	l := []api.Element{element(2, "x"), element(1, ""), element(4, "x"), element(3, "y")}
	for base := range 16 {
		for a := range 16 {
			for b := range 16 {
				stays := a&b | (a|b)&^base
				wantThree(t, "Three", of(t, picked(l, base)...), of(t, picked(l, a)...), of(t, picked(l, b)...), picked(l, stays))
			}
		}
	}
}

// P13.3: of a stamp that has two texts the elements' rule says a's, where both sides have it.
func TestThreeOneStamp(t *testing.T) {
	a, b := of(t, element(1, "x")), of(t, element(1, "y"))
	for _, base := range []line{{}, of(t, element(1, "z")), of(t, element(2, "z"))} {
		wantQueue(t, "x and y", together(t, base, a, b), []api.Element{element(1, "x")})
		wantQueue(t, "y and x", together(t, base, b, a), []api.Element{element(1, "y")})
	}
	base := of(t, element(1, "z"))
	wantQueue(t, "just a has it, and base otherwise", together(t, base, a, line{}), nil)
	wantQueue(t, "just b has it, and base otherwise", together(t, base, line{}, b), nil)
}

// P13.4: two pops that do not see each other take one element away; a push stays, of one side and of both.
func TestPopsApart(t *testing.T) {
	for n := range some() {
		l := byStamps(some()[n:])
		base := of(t, l...)
		a, b := popped(t, base, l[0]), popped(t, base, l[0])
		wantThree(t, "two pops", base, a, b, l[1:])
		wantThree(t, "one pop", base, a, base, l[1:])
		for _, text := range texts() {
			x := api.Element{Stamp: stampOf(10, 0, "a", 1, 0), Text: text}
			y := api.Element{Stamp: stampOf(10, 1, "a", 1, 0), Text: text}
			withX, withY := pushed(t, a, x), pushed(t, b, y)
			wantThree(t, "two pops, and a push behind one", base, withX, b, append(slices.Clone(l[1:]), x))
			wantThree(t, "two pops, and a push behind each", base, withX, withY, append(slices.Clone(l[1:]), x, y))
			ahead := popped(t, pushed(t, base, x), l[0])
			wantThree(t, "two pops, and a push ahead of one", base, ahead, b, append(slices.Clone(l[1:]), x))
			wantThree(t, "a pop, and a push beside it", base, a, pushed(t, base, y), append(slices.Clone(l[1:]), y))
		}
		wantQueue(t, "the elder queue", base, l)
	}
}

// P13.4: one side pops further than the other one: what either took away is gone (DOC.md, example 5).
func TestPopsFurther(t *testing.T) {
	l := byStamps(some())
	base := of(t, l...)
	for i := range len(l) + 1 {
		for j := range len(l) + 1 {
			a, _ := queue.Drop(base, i)
			b, _ := queue.Drop(base, j)
			wantThree(t, "pops of both", base, a, b, l[max(i, j):])
		}
	}
	three := []api.Element{element(1, "1"), element(2, "2"), element(3, "3")}
	base = of(t, three...)
	a := popped(t, base, three[0])
	wantTexts(t, "once and twice", together(t, base, a, popped(t, a, three[1])), "3")
}

// P13.4: a pop of what was pushed apart from the other side takes nothing of the other side's away, and a queue of none takes all of base away.
func TestPopsOfOwn(t *testing.T) {
	x, y := element(1, "x"), element(2, "y")
	mine := pushed(t, line{}, x)
	wantThree(t, "popped ahead of being run together", line{}, popped(t, mine, x), pushed(t, line{}, y), []api.Element{y})
	wantThree(t, "emptied, and pushed to", mine, popped(t, mine, x), pushed(t, mine, y), []api.Element{y})
	wantThree(t, "emptied by both", mine, line{}, line{}, nil)
}

// P13.3: where two of the three are one, the third one is answered as it is.
func TestThreeSame(t *testing.T) {
	m, n := of(t, some()...), of(t, some()[3:9]...)
	for i, l := range [][4]line{{m, m, m, m}, {m, m, n, n}, {m, n, m, n}, {m, n, n, n}, {{}, {}, m, m}, {{}, m, {}, m}, {m, {}, {}, {}}, {}} {
		if got := together(t, l[0], l[1], l[2]); !got.Same(l[3]) {
			t.Errorf("%d: another map", i)
		}
	}
}

// version is a queue, with the pushes that its history has, and what its pops took away.
type version struct {
	m    line
	seen []api.Element
	gone []api.Element
	gen  int64
}

// left is the elements that no pop of the history took away, in order.
func (v version) left() []api.Element {
	return byStamps(slices.DeleteFunc(slices.Clone(v.seen), func(x api.Element) bool { return slices.Contains(v.gone, x) }))
}

// pushed is a version behind one more push.
func (v version) pushed(t *testing.T, repo int, text string) version {
	x := api.Element{Stamp: stampOf(v.gen+1, repo, "a", 1, 0), Text: text}
	return version{pushed(t, v.m, x), append(slices.Clone(v.seen), x), v.gone, v.gen + 1}
}

// popped is a version behind one more pop, of nothing too.
func (v version) popped() version {
	m, _, _ := queue.Pop(v.m)
	return version{m, v.seen, slices.Concat(v.gone, v.left()[:min(1, len(v.left()))]), v.gen + 1}
}

// merged is two versions run together over one that both are behind.
func merged(t *testing.T, base, a, b version) version {
	seen := slices.Clone(a.seen)
	for _, x := range b.seen {
		if !slices.Contains(seen, x) {
			seen = append(seen, x)
		}
	}
	v := version{together(t, base.m, a.m, b.m), seen, slices.Concat(a.gone, b.gone), max(a.gen, b.gen) + 1}
	wantThree(t, "merged", base.m, a.m, b.m, v.left())
	return v
}

// P13.3, P13.4: sides that push, pop and merge, one base behind the other: all pushes are left but those that any pop took away; elder queues stay as they were.
func TestThreeHistories(t *testing.T) {
	chance := rand.New(rand.NewSource(3))
	for range 120 {
		var kept []version
		var base version
		for range 6 {
			side := [3]version{base, base, base}
			for range chance.Intn(12) {
				at := chance.Intn(len(side))
				if chance.Intn(3) == 0 {
					side[at] = side[at].popped()
				} else {
					side[at] = side[at].pushed(t, at, texts()[chance.Intn(len(texts()))])
				}
				kept = append(kept, side[at])
			}
			two := merged(t, base, side[0], side[1])
			base = merged(t, base, two, side[2])
			kept = append(kept, two, base)
		}
		for _, v := range kept {
			wantQueue(t, "an elder queue", v.m, v.left())
		}
	}
}
