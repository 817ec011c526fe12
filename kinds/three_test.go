package kinds_test

import (
	"math"
	"math/rand"
	"slices"
	"testing"

	"estuary/api"
	"estuary/kinds"
	"estuary/stamp"
)

// together is what Three makes of three values, where it may.
func together(t *testing.T, base, a, b api.Value) api.Value {
	t.Helper()
	got, e := kinds.Three(base, a, b)
	if e != api.OK || !kinds.Value(got) {
		t.Fatalf("Three(%v, %v, %v): %v, %v", base, a, b, got, e)
	}
	return got
}

// some is a value with the elements of some of the stamps, a bit each; each text tells its stamp's place and whose it is.
func some(k api.Kind, bits int, whose string) api.Value {
	v := api.Value{Kind: k}
	for i, s := range rising() {
		if bits>>i&1 == 1 {
			v.Elements = append(v.Elements, api.Element{Stamp: s, Text: string(rune('A'+i)) + whose})
		}
	}
	return v
}

// P9.4, the chapter's example.
func TestThreeExample(t *testing.T) {
	got := together(t, of(api.Set, "x"), of(api.Set), of(api.Set, "x", "y"))
	wantSame(t, "Three", got, api.Value{Kind: api.Set, Elements: []api.Element{{Stamp: at(2), Text: "y"}}})
}

// P9.4, P9.5: sums go round.
func TestThreeCounters(t *testing.T) {
	numbers := []int64{0, 1, -1, 7, 1000, math.MaxInt64, math.MaxInt64 - 5, math.MinInt64, math.MinInt64 + 5, 1 << 62, -1 << 62}
	for _, base := range numbers {
		for _, a := range numbers {
			for _, b := range numbers {
				want := number(int64(uint64(a) + uint64(b) - uint64(base)))
				wantSame(t, "Three", together(t, number(base), number(a), number(b)), want)
				wantSame(t, "the other way round", together(t, number(base), number(b), number(a)), want)
			}
			wantSame(t, "b did nothing", together(t, number(base), number(a), number(base)), number(a))
			wantSame(t, "a did nothing", together(t, number(base), number(base), number(a)), number(a))
		}
	}
	wantSame(t, "7", together(t, number(0), number(3), number(4)), number(7))
}

// P9.4: all threes of values with up to four elements; texts that differ under one stamp are a's.
func TestThreeElements(t *testing.T) {
	const all = 1 << 4
	for _, k := range plain()[1:] {
		for base := range all {
			for a := range all {
				for b := range all {
					stays := a&b | (a|b)&^base
					want := api.Value{Kind: k}
					for i := range 4 {
						switch bit := 1 << i; {
						case stays&a&bit != 0:
							want.Elements = append(want.Elements, some(k, bit, " a").Elements...)
						case stays&bit != 0:
							want.Elements = append(want.Elements, some(k, bit, " b").Elements...)
						}
					}
					wantSame(t, "Three", together(t, some(k, base, " base"), some(k, a, " a"), some(k, b, " b")), want)
				}
			}
		}
	}
}

// P9.5: where one stamp has one text, sides may be told either way, and one that did nothing leaves the other one's.
func TestThreeFollows(t *testing.T) {
	n := len(rising())
	chance := rand.New(rand.NewSource(9))
	for _, k := range plain()[1:] {
		for range 2000 {
			v, a, b := some(k, chance.Intn(1<<n), ""), some(k, chance.Intn(1<<n), ""), some(k, chance.Intn(1<<n), "")
			wantSame(t, "the other way round", together(t, v, a, b), together(t, v, b, a))
			wantSame(t, "b did nothing", together(t, v, a, v), a)
			wantSame(t, "a did nothing", together(t, v, v, b), b)
			wantSame(t, "both did the same", together(t, v, a, a), a)
		}
	}
}

// P9.4: values without elements, on each side.
func TestThreeEmpty(t *testing.T) {
	for _, k := range plain()[1:] {
		none, x := api.Value{Kind: k}, of(k, "x", "y")
		for _, none := range []api.Value{none, {Kind: k, Elements: []api.Element{}}} {
			wantSame(t, "none thrice", together(t, none, none, none), none)
			wantSame(t, "only base", together(t, x, none, none), none)
			wantSame(t, "only a", together(t, none, x, none), x)
			wantSame(t, "only b", together(t, none, none, x), x)
			wantSame(t, "base and a", together(t, x, x, none), none)
			wantSame(t, "base and b", together(t, x, none, x), none)
			wantSame(t, "a and b", together(t, none, x, x), x)
			wantSame(t, "all", together(t, x, x, x), x)
		}
	}
}

// P9.4: values of more kinds than one, and one that may not be in each place.
func TestThreeRefused(t *testing.T) {
	refused := func(base, a, b api.Value) {
		t.Helper()
		if got, e := kinds.Three(base, a, b); e != api.ErrArg || !kinds.Same(got, api.Value{}) {
			t.Errorf("Three(%v, %v, %v): %v, %v", base, a, b, got, e)
		}
	}
	for _, k := range plain() {
		for _, other := range append(plain(), api.Map, 0, -1, 7, math.MaxInt) {
			if other == k {
				continue
			}
			x, y := api.Value{Kind: k}, api.Value{Kind: other}
			refused(x, x, y)
			refused(x, y, x)
			refused(y, x, x)
			refused(x, y, y)
		}
	}
	for _, k := range []api.Kind{0, api.Map, 7, -1} {
		v := api.Value{Kind: k}
		refused(v, v, v)
	}
}

// deed is an operation of a history, with its stamp and those ahead of it that it sees.
type deed struct {
	at   api.Stamp
	op   api.Op
	sees []deed
}

// deeds is operations one behind the other, behind those that all of them see.
func deeds(behind []deed, gen int64, repo int, l []api.Op) []deed {
	sees := slices.Clone(behind)
	for i, o := range l {
		sees = append(sees, deed{stampOf(gen, repo, "main", 1, i), o, sees[:len(sees):len(sees)]})
	}
	return sees[len(behind):]
}

// said is what a history says of a thing: what is brought and not taken away, by stamps; a take goes by what it sees alone.
func said(history []deed) []api.Element {
	var l []api.Element
	gone := map[api.Stamp]int{}
	for _, d := range history {
		standing := []api.Element(nil)
		if d.op.Do == api.DoPop {
			standing = said(d.sees)
		}
		if len(standing) > 0 {
			gone[standing[0].Stamp]++
		}
		for _, s := range d.sees {
			if d.op.Do == api.DoWrite || d.op.Do == api.DoRemove && s.op.Do == api.DoInsert && s.op.Text == d.op.Text {
				gone[s.at]++
			}
		}
	}
	for _, d := range history {
		if kinds.Stamped(d.op) && gone[d.at] == 0 {
			l = append(l, api.Element{Stamp: d.at, Text: d.op.Text})
		}
	}
	slices.SortFunc(l, func(x, y api.Element) int { return stamp.Cmp(x.Stamp, y.Stamp) })
	return l
}

// upTo is all rows of at most n operations of a kind.
func upTo(k api.Kind, n int) [][]api.Op {
	rows := [][]api.Op{nil}
	for from := 0; n > 0; n-- {
		to := len(rows)
		for _, row := range rows[from:to] {
			for _, o := range tried(k) {
				rows = append(rows, append(slices.Clone(row), o))
			}
		}
		from = to
	}
	return rows
}

// all is what operations make of a value.
func all(t *testing.T, v api.Value, l []deed) api.Value {
	t.Helper()
	for _, d := range l {
		v = applied(t, v, d.at, d.op)
	}
	return v
}

// P9.4: two sides of up to two operations, behind up to two that both see, run together, say what the history of all says.
func TestThreeHistories(t *testing.T) {
	for _, k := range plain()[1:] {
		rows := upTo(k, 2)
		for _, first := range rows {
			common := deeds(nil, 1, 0, first)
			base := all(t, api.Value{Kind: k}, common)
			for _, left := range rows {
				ofA := deeds(common, 2, 0, left)
				a := all(t, base, ofA)
				for _, right := range rows {
					ofB := deeds(common, 2, 1, right)
					b := all(t, base, ofB)
					want := api.Value{Kind: k, Elements: said(slices.Concat(common, ofA, ofB))}
					wantSame(t, "Three", together(t, base, a, b), want)
					wantSame(t, "the other way round", together(t, base, b, a), want)
				}
			}
		}
	}
}
