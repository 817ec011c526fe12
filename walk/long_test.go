package walk_test

import (
	"cmp"
	"slices"
	"strconv"
	"testing"

	"estuary/api"
	"estuary/pmap"
	"estuary/walk"
)

// lots is numbers without a rule that is easily seen, the same in each run.
type lots uint64

func (l *lots) next(below int) int {
	*l = *l*6364136223846793005 + 1442695040888963407
	return int(uint64(*l) >> 33 % uint64(below))
}

type rule = func(key string, base, a, b part) (string, bool)

// settled is a rule that keeps the chapter's words for any values; what both changed is settled by clash.
func settled(clash func(base, a, b part) part) rule {
	return func(key string, base, a, b part) (string, bool) {
		switch {
		case a == b, base == b:
			return a.Value, a.Has
		case base == a:
			return b.Value, b.Has
		}
		p := clash(base, a, b)
		return p.Value, p.Has
	}
}

func both(base, a, b part) part {
	return part{Value: base.Value + "<" + a.Value + "|" + b.Value, Has: true}
}
func drop(base, a, b part) part { return part{} }

// plain is what running together must answer, key by key.
func plain(base, a, b textMap, by rule) []pair {
	keys := slices.Concat(keysOf(base), keysOf(a), keysOf(b))
	slices.Sort(keys)
	var l []pair
	for _, k := range slices.Compact(keys) {
		if v, stays := by(k, partOf(base, k), partOf(a, k), partOf(b, k)); stays {
			l = append(l, pair{k, v})
		}
	}
	return l
}

// wantWhole: m is a balanced search tree that tells its own length.
func wantWhole(t *testing.T, m textMap) {
	t.Helper()
	n := 0
	for x := range m.Nodes() {
		n++
		if apart := x.Left().Height() - x.Right().Height(); apart < -1 || apart > 1 {
			t.Fatalf("at %q the sides are %d apart", x.Key(), apart)
		}
	}
	if l := keysOf(m); n != m.Len() || len(l) != n || !slices.IsSortedFunc(l, cmp.Compare[string]) {
		t.Fatalf("%d nodes, %d long, keys %q", n, m.Len(), l)
	}
}

// newNodes is how many nodes of m are none of the others', told by all of them.
func newNodes(m textMap, of ...textMap) int {
	were := map[*pmap.Node[string]]bool{}
	for _, o := range of {
		for n := range o.Nodes() {
			were[n] = true
		}
	}
	sum := 0
	for n := range m.Nodes() {
		if !were[n] {
			sum++
		}
	}
	return sum
}

// wantRun runs three maps together, and holds all that is promised of it against plain lists.
func wantRun(t *testing.T, base, a, b textMap, by rule) textMap {
	t.Helper()
	were := [3][]pair{told(base), told(a), told(b)}
	asked := map[string]bool{}
	m, took, e := walk.Run(base, a, b, func(key string, inBase, inA, inB part) (string, bool) {
		if asked[key] {
			t.Fatalf("asked twice for %q", key)
		}
		asked[key] = true
		if inBase != partOf(base, key) || inA != partOf(a, key) || inB != partOf(b, key) {
			t.Fatalf("asked for %q with %v %v %v", key, inBase, inA, inB)
		}
		return by(key, inBase, inA, inB)
	})
	if want := plain(base, a, b, by); e != api.OK || !slices.Equal(told(m), want) {
		t.Fatalf("%v of %v, %v, %v: %v, not %v", e, were[0], were[1], were[2], told(m), want)
	}
	wantWhole(t, m)
	want := api.Count{Reads: len(asked), Rules: len(asked), Made: newNodes(m, base, a, b)}
	if took != want {
		t.Fatalf("%v, %v, %v: took %+v, not %+v", were[0], were[1], were[2], took, want)
	}
	for i, now := range []textMap{base, a, b} {
		if !slices.Equal(told(now), were[i]) {
			t.Fatalf("map %d was changed: %v, now %v", i, were[i], told(now))
		}
	}
	return m
}

// wantElements holds what the elements' rule makes of three maps against the promises.
func wantElements(t *testing.T, base, a, b textMap) {
	t.Helper()
	m := wantRun(t, base, a, b, walk.Keep[string])
	by, took := walk.Elements(base, a, b)
	other, _ := walk.Elements(base, b, a)
	if !slices.Equal(told(by), told(m)) || took.Made != newNodes(by, base, a, b) {
		t.Fatalf("Elements tells %v, Run by Keep %v", told(by), told(m))
	}
	if !slices.Equal(keysOf(other), keysOf(m)) {
		t.Fatalf("with sides changed: %q, not %q", keysOf(other), keysOf(m))
	}
	for _, k := range keysOf(m) {
		if !partOf(a, k).Has && !partOf(b, k).Has {
			t.Fatalf("%q is of neither", k)
		}
	}
	for _, k := range keysOf(a) {
		if partOf(b, k).Has && !partOf(m, k).Has {
			t.Fatalf("%q is of both, and went", k)
		}
	}
}

// wantPair holds Changes and Union of two maps against plain lists.
func wantPair(t *testing.T, a, b textMap) {
	t.Helper()
	if got, want := changes(a, b), plainChanges(a, b); !slices.Equal(got, want) {
		t.Fatalf("Changes of %v and %v: %v", told(a), told(b), got)
	}
	want := told(a)
	for _, c := range plainChanges(a, b) {
		if c.parts[1].Has {
			want = append(want, pair{c.key, c.parts[1].Value})
		}
	}
	slices.SortFunc(want, func(x, y pair) int { return cmp.Compare(x.key, y.key) })
	m := walk.Union(a, b)
	wantWhole(t, m)
	if !slices.Equal(told(m), want) {
		t.Fatalf("Union of %v and %v: %v", told(a), told(b), told(m))
	}
}

// subset is the keys of a few whose bits are set.
func subset(bits int) []string {
	var l []string
	for i, k := range []string{"a", "b", "c", "d", "e"} {
		if bits>>i&1 != 0 {
			l = append(l, k)
		}
	}
	return l
}

// P8.1, P8.2, P8.3: all threes of maps with up to five keys, each made apart from the others.
func TestAllApart(t *testing.T) {
	for x := range 32 {
		for y := range 32 {
			wantPair(t, of(subset(x)...), of(subset(y)...))
			for z := range 32 {
				wantElements(t, of(subset(x)...), of(subset(y)...), of(subset(z)...))
			}
		}
	}
}

// become is m with just these keys, made of it by puts and takes.
func become(m textMap, keys []string) textMap {
	for _, k := range keysOf(m) {
		if !slices.Contains(keys, k) {
			m = m.Take(k)
		}
	}
	for _, k := range keys {
		if !partOf(m, k).Has {
			m = m.Put(k, "v"+k)
		}
	}
	return m
}

// P8.1, P8.2, P8.3: all threes of maps with up to five keys, two of them made of the third one.
func TestAllMadeOfOne(t *testing.T) {
	for x := range 32 {
		base := of(subset(x)...)
		for y := range 32 {
			a := become(base, subset(y))
			wantPair(t, base, a)
			wantPair(t, a, base)
			for z := range 32 {
				wantElements(t, base, a, become(base, subset(z)))
			}
		}
	}
}

// grown is m with some keys put and taken; with own values, if they are to tell more than the key.
func grown(l *lots, m textMap, steps, room int, own string) textMap {
	for range steps {
		k := strconv.Itoa(l.next(room))
		if l.next(3) == 0 {
			m = m.Take(k)
			continue
		}
		v := "v" + k
		if own != "" {
			v = own + strconv.Itoa(l.next(3))
		}
		m = m.Put(k, v)
	}
	return m
}

// P8.1, P8.2, P8.3: greater maps, made of one or apart, by the elements' rule.
func TestGreatElements(t *testing.T) {
	var l lots = 3
	for round := range 150 {
		size := l.next(200)
		base := grown(&l, textMap{}, size, 300, "")
		a, b := base, base
		if round%3 == 0 {
			a, b = textMap{}, grown(&l, textMap{}, size, 300, "")
		}
		a, b = grown(&l, a, l.next(40), 300, ""), grown(&l, b, l.next(40), 300, "")
		wantElements(t, base, a, b)
		wantElements(t, a, b, base)
		wantPair(t, a, b)
	}
}

// P8.1: other rules, which tell values apart, on maps made of one and apart.
func TestOtherRules(t *testing.T) {
	var l lots = 5
	for round := range 200 {
		size := l.next(120)
		base := grown(&l, textMap{}, size, 80, "b")
		a, b := base, base
		if round%4 == 0 {
			a = grown(&l, textMap{}, size, 80, "b")
		}
		a, b = grown(&l, a, l.next(60), 80, "b"), grown(&l, b, l.next(60), 80, "b")
		for _, by := range []rule{settled(both), settled(drop)} {
			wantRun(t, base, a, b, by)
			wantRun(t, base, b, a, by)
		}
		wantPair(t, a, b)
	}
}

// P8.1, P0.4: in great maps that differ in little just what leads there is read and made; what is shared is not.
func TestSharedUnread(t *testing.T) {
	var base textMap
	for i := range 4096 {
		k := strconv.Itoa(10000 + i)
		base = base.Put(k, "v"+k)
	}
	a, b := base.Put("10001x", "v10001x").Take("10700"), base.Put("14000x", "v14000x").Take("12500")
	m, took := walk.Elements(base, a, b)
	if m.Len() != 4096 || took.Reads == 0 || took.Reads > 4*base.Height() || took.Made > 8*base.Height() {
		t.Errorf("%d keys, took %+v", m.Len(), took)
	}
	if got := changes(a, b); !slices.Equal(got, []change{gone("10001x"), come("10700"), gone("12500"), come("14000x")}) {
		t.Error("Changes:", got)
	}
	if u := walk.Union(a, b); u.Len() != 4098 || newNodes(u, a, b) > 4*base.Height() {
		t.Error("Union:", u.Len(), newNodes(u, a, b))
	}
}
