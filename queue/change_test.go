package queue_test

import (
	"math"
	"math/rand"
	"slices"
	"testing"

	"estuary/api"
	"estuary/kinds"
	"estuary/queue"
)

// pushed is a queue behind a push, which must be.
func pushed(t *testing.T, m line, x api.Element) line {
	t.Helper()
	n, e := queue.Push(m, x.Stamp, x.Text)
	if e != api.OK {
		t.Fatalf("Push(%v): %v", x, e)
	}
	return n
}

// popped is a queue behind a pop, which must tell an element.
func popped(t *testing.T, m line, want api.Element) line {
	t.Helper()
	n, x, has := queue.Pop(m)
	if x != want || !has {
		t.Fatalf("Pop: %v, %v, not %v", x, has, want)
	}
	return n
}

func wantNoPush(t *testing.T, what string, m line, s api.Stamp, text string) {
	t.Helper()
	if n, e := queue.Push(m, s, text); n.Root() != nil || e != api.ErrArg {
		t.Errorf("Push, %s, of %v, %d bytes: %d elements, %v", what, s, len(text), n.Len(), e)
	}
}

// P13.2: each text, pushed behind none, one and many; the elder queue stays as it was.
func TestPush(t *testing.T) {
	behind := rising()[len(rising())-1]
	for n := range some() {
		l := some()[:n]
		m := of(t, l...)
		for _, text := range texts() {
			x := api.Element{Stamp: behind, Text: text}
			wantQueue(t, "Push", pushed(t, m, x), append(slices.Clone(l), x))
		}
		wantQueue(t, "the elder queue", m, l)
	}
}

// P13.2: one text pushed again and again is an element each time.
func TestPushSameText(t *testing.T) {
	var m line
	var l []api.Element
	for gen := range int64(70) {
		x := element(gen+1, "x")
		m, l = pushed(t, m, x), append(l, x)
		wantQueue(t, "x behind x", m, l)
	}
}

// P13.2: a stamp must be behind all of the queue's: each one against each two.
func TestPushBehind(t *testing.T) {
	stamps := rising()
	for i, s := range stamps {
		for low := range stamps {
			for high := low; high < len(stamps); high++ {
				l := []api.Element{{Stamp: stamps[high], Text: "x"}}
				if low < high {
					l = append(l, api.Element{Stamp: stamps[low], Text: "y"})
				}
				m := of(t, l...)
				if i > high {
					x := api.Element{Stamp: s, Text: "z"}
					wantQueue(t, "a stamp behind", pushed(t, m, x), append(slices.Clone(l), x))
				} else {
					wantNoPush(t, "ahead, or the same, or amid", m, s, "z")
					wantNoPush(t, "with a text that is there", m, s, "x")
				}
				wantQueue(t, "the elder queue", m, l)
			}
		}
		x := api.Element{Stamp: s, Text: "z"}
		wantQueue(t, "the only one", pushed(t, line{}, x), []api.Element{x})
	}
}

// P13.2: just what is in the queue counts: a stamp that was popped may be pushed again, if it is behind all others.
func TestPushAgain(t *testing.T) {
	x := element(5, "x")
	m := popped(t, pushed(t, line{}, x), x)
	for _, y := range []api.Element{element(5, "y"), element(4, "z"), x} {
		wantQueue(t, "pushed again", pushed(t, m, y), []api.Element{y})
	}
}

// P13.2: stamps and texts that may not be, behind none, one and many.
func TestPushRefused(t *testing.T) {
	for _, l := range [][]api.Element{nil, {element(1, "x")}, some()} {
		m := of(t, l...)
		for _, s := range wrongStamps() {
			for _, text := range []string{"x", "", wrongTexts()[0]} {
				wantNoPush(t, "a stamp that may not be", m, s, text)
			}
		}
		for _, text := range wrongTexts() {
			wantNoPush(t, "a text that is too long", m, at(9), text)
			wantNoPush(t, "both", m, api.Stamp{}, text)
		}
		wantQueue(t, "refused", m, l)
	}
}

// P13.2: First and Pop of a queue without elements, and of one: each text under each stamp.
func TestPopFew(t *testing.T) {
	emptied, _ := queue.Drop(of(t, some()...), len(some()))
	for _, m := range []line{{}, of(t), emptied} {
		if x, has := queue.First(m); x != (api.Element{}) || has {
			t.Errorf("First of none: %v, %v", x, has)
		}
		if n, x, has := queue.Pop(m); !n.Same(m) || x != (api.Element{}) || has {
			t.Errorf("Pop of none: the same: %v, %v, %v", n.Same(m), x, has)
		}
	}
	for _, text := range texts() {
		for _, s := range rising() {
			x := api.Element{Stamp: s, Text: text}
			m := of(t, x)
			if first, has := queue.First(m); first != x || !has {
				t.Fatalf("First of one: %v, %v", first, has)
			}
			if n := popped(t, m, x); n.Root() != nil {
				t.Fatalf("Pop of one leaves %d", n.Len())
			}
			wantQueue(t, "the elder queue", m, []api.Element{x})
		}
	}
}

// P13.2, P13.4: pops, one behind the other, are the elements, in order; Drop is as many pops; elder queues stay as they were.
func TestPops(t *testing.T) {
	for n := range some() {
		l := byStamps(some()[n:])
		m := of(t, l...)
		elder := []line{m}
		for i, x := range l {
			m = popped(t, m, x)
			wantQueue(t, "Pop", m, l[i+1:])
			elder = append(elder, m)
		}
		for i, m := range elder {
			wantQueue(t, "an elder queue", m, l[i:])
			dropped, k := queue.Drop(elder[0], i)
			if k != i {
				t.Fatalf("Drop of %d: %d", i, k)
			}
			wantQueue(t, "Drop, as many pops", dropped, l[i:])
		}
	}
}

// P13.2: Drop of fewer than 1, of as many as there are, of more: of none, one, and many.
func TestDrop(t *testing.T) {
	for _, l := range [][]api.Element{nil, {element(1, "x")}, {element(1, "x"), element(2, "x")}, byStamps(some())} {
		m := of(t, l...)
		for _, k := range []int{math.MinInt, math.MinInt32, -2, -1, 0} {
			if n, dropped := queue.Drop(m, k); !n.Same(m) || dropped != 0 {
				t.Errorf("Drop of %d: the same: %v, %d", k, n.Same(m), dropped)
			}
		}
		for k := range len(l) + 1 {
			n, dropped := queue.Drop(m, k)
			if dropped != k {
				t.Errorf("Drop of %d out of %d: %d", k, len(l), dropped)
			}
			wantQueue(t, "Drop", n, l[k:])
		}
		for _, k := range []int{len(l), len(l) + 1, 1 << 40, math.MaxInt} {
			if n, dropped := queue.Drop(m, k); n.Root() != nil || dropped != len(l) {
				t.Errorf("Drop of %d out of %d: %d, and %d are left", k, len(l), dropped, n.Len())
			}
		}
		wantQueue(t, "the elder queue", m, l)
	}
}

// P13.3: it may be left behind each turn, and begins anew the next time.
func TestAllLeft(t *testing.T) {
	l := byStamps(some())
	all := queue.All(of(t, l...))
	for stop := range l {
		var told []api.Element
		all(func(s api.Stamp, text string) bool {
			told = append(told, api.Element{Stamp: s, Text: text})
			return len(told) <= stop
		})
		if !slices.Equal(told, l[:stop+1]) {
			t.Errorf("left at turn %d: %v", stop+1, told)
		}
	}
	for s, text := range all {
		if s != l[0].Stamp || text != l[0].Text {
			t.Errorf("after it was left it begins with %v, %q", s, text)
		}
		break
	}
}

// P13.3: it may be gone through while it is being gone through, and tells what the queue was.
func TestAllWithin(t *testing.T) {
	l := []api.Element{element(1, "x"), element(2, ""), element(3, "x")}
	m := of(t, l...)
	all, n := queue.All(m), m
	turns := 0
	for s, text := range all {
		if s != l[turns].Stamp || text != l[turns].Text {
			t.Fatalf("turn %d: %v, %q", turns, s, text)
		}
		within := 0
		for s, text := range all {
			if s != l[within].Stamp || text != l[within].Text {
				t.Fatalf("turn %d within turn %d: %v, %q", within, turns, s, text)
			}
			within++
		}
		n = pushed(t, popped(t, n, l[turns]), element(int64(4+turns), "new"))
		turns++
	}
	if turns != len(l) {
		t.Errorf("%d turns", turns)
	}
	wantQueue(t, "what came meanwhile", n, []api.Element{element(4, "new"), element(5, "new"), element(6, "new")})
}

// plain is a queue, with a plain list of its elements, in order.
type plain struct {
	m line
	l []api.Element
}

// tried is what a push makes of both, held against layer 9's; as it was, if both refuse it.
func (p plain) tried(t *testing.T, x api.Element) plain {
	t.Helper()
	v, e := kinds.Apply(api.Value{Kind: api.Queue, Elements: p.l}, x.Stamp, api.Op{Kind: api.Queue, Key: "k", Do: api.DoPush, Text: x.Text})
	if e != api.OK {
		wantNoPush(t, "as layer 9", p.m, x.Stamp, x.Text)
		return p
	}
	m, l := pushed(t, p.m, x), append(slices.Clone(p.l), x)
	wantQueue(t, "Push, as layer 9", m, v.Elements)
	return plain{m, l}
}

// without is what as many pops make of both, held against layer 9's.
func (p plain) without(t *testing.T, k int) plain {
	t.Helper()
	v := api.Value{Kind: api.Queue, Elements: p.l}
	behind := rising()[len(rising())-1]
	for range k {
		v, _ = kinds.Apply(v, behind, api.Op{Kind: api.Queue, Key: "k", Do: api.DoPop})
	}
	gone := max(0, min(k, len(p.l)))
	m, dropped := queue.Drop(p.m, k)
	if dropped != gone {
		t.Fatalf("Drop of %d out of %d: %d", k, len(p.l), dropped)
	}
	wantQueue(t, "Drop, as layer 9's pops", m, v.Elements)
	return plain{m, p.l[gone:]}
}

// P13.2, P13.3: pushes, pops, drops and questions by chance, held against a plain list, and against layer 9; elder queues stay as they were.
func TestChance(t *testing.T) {
	for seed := range int64(8) {
		chance := rand.New(rand.NewSource(seed))
		kept := []plain{{}, {of(t, some()...), byStamps(some())}, {of(t, some()[:3]...), byStamps(some()[:3])}}
		for step := range int64(200) {
			now := kept[max(0, len(kept)-1-chance.Intn(9))]
			switch chance.Intn(5) {
			case 0:
				now = now.without(t, chance.Intn(5)-1)
			case 1:
				m, _, has := queue.Pop(now.m)
				if has != (len(now.l) > 0) {
					t.Fatalf("Pop of %d: %v", len(now.l), has)
				}
				now = plain{m, now.l[min(1, len(now.l)):]}
			default:
				now = now.tried(t, api.Element{Stamp: stampOf(1+max(0, step-3+chance.Int63n(5)), chance.Intn(3), "a", 1+chance.Int63n(3), chance.Intn(3)), Text: texts()[chance.Intn(len(texts()))]})
			}
			wantQueue(t, "by chance", now.m, now.l)
			kept = append(kept, now)
		}
		for _, p := range kept {
			wantQueue(t, "an elder queue", p.m, p.l)
		}
	}
}

// P13.2: a queue of many elements, made by pushes alone and emptied from its front.
func TestMany(t *testing.T) {
	const many = 1500
	var now plain
	for i := range int64(many) {
		x := api.Element{Stamp: stampOf(i/9+1, int(i/3%3), "a", i%3+1, 0), Text: texts()[i%19]}
		now = plain{pushed(t, now.m, x), append(now.l, x)}
	}
	wantQueue(t, "many", now.m, now.l)
	m := now.m
	for i, k := range []int{1, 500, 0, 2, 990, 1, 3, 99} {
		gone := min(k, m.Len())
		n, dropped := queue.Drop(m, k)
		if dropped != gone {
			t.Fatalf("%d: Drop of %d: %d", i, k, dropped)
		}
		m = n
		wantQueue(t, "dropped", m, now.l[many-m.Len():])
	}
	if m.Len() != 0 {
		t.Errorf("%d are left", m.Len())
	}
}
