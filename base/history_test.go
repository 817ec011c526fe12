package base_test

import (
	"fmt"
	"slices"
	"strings"
	"testing"

	"estuary/api"
	"estuary/keys"
	"estuary/stamp"
	"estuary/tree"
)

// deed is an operation, its stamp, and the stamps of what it takes away.
type deed struct {
	stamp api.Stamp
	op    api.Op
	takes []api.Stamp
}

func (d deed) place() api.Place {
	return api.Place{Path: d.op.Path, Kind: d.op.Kind, Key: d.op.Key}
}

// history is the deeds of commits, as they stand in these; what each takes away was told by what it sees.
type history struct {
	plain *plain
	deeds map[api.Name][]deed
}

func newHistory() history { return history{newPlain(), map[api.Name][]deed{}} }

// with adds a commit with its operations.
func (h history) with(c api.Commit) {
	seen := h.of(h.plain.past(c.Parents...))
	h.plain.with(c)
	for i, o := range c.Ops {
		d := deed{stamp: api.Stamp{Gen: c.Gen, Name: c.Name, Index: i}, op: o}
		d.takes = taken(d, seen)
		seen = append(seen, d)
		h.deeds[c.Name] = append(h.deeds[c.Name], d)
	}
}

// of is the deeds of commits, by their stamps.
func (h history) of(commits set) []deed {
	var l []deed
	for n := range commits {
		l = append(l, h.deeds[n]...)
	}
	slices.SortFunc(l, func(a, b deed) int { return stamp.Cmp(a.stamp, b.stamp) })
	return l
}

// taken is what a deed takes away of what it sees.
func taken(d deed, seen []deed) []api.Stamp {
	var l []api.Stamp
	for _, other := range left(d.place(), seen) {
		switch {
		case d.op.Do == api.DoRemove && other.op.Text == d.op.Text, d.op.Do == api.DoWrite:
			l = append(l, other.stamp)
		case d.op.Do == api.DoPop && len(l) == 0:
			l = append(l, other.stamp)
		}
	}
	return l
}

// left is the deeds of a thing that bring something which none of these takes away.
func left(p api.Place, deeds []deed) []deed {
	gone := map[api.Stamp]bool{}
	for _, d := range deeds {
		for _, s := range d.takes {
			gone[s] = true
		}
	}
	var l []deed
	for _, d := range deeds {
		brings := d.op.Do != api.DoRemove && d.op.Do != api.DoPop && d.op.Do != api.DoAdd
		if brings && !gone[d.stamp] && keys.CmpPlace(p, d.place()) == 0 {
			l = append(l, d)
		}
	}
	return l
}

// lines is what the history of commits says.
func (h history) lines(commits set) string {
	deeds := h.of(commits)
	var places []api.Place
	for _, d := range deeds {
		places = append(places, d.place())
	}
	slices.SortFunc(places, keys.CmpPlace)
	places = slices.CompactFunc(places, func(a, b api.Place) bool { return keys.CmpPlace(a, b) == 0 })
	var l []api.Line
	for _, p := range places {
		l = append(l, lineOf(p, deeds))
	}
	return linesText(l)
}

func lineOf(p api.Place, deeds []deed) api.Line {
	l := api.Line{Path: p.Path, Kind: p.Kind, Key: p.Key}
	for _, d := range deeds {
		if d.op.Do == api.DoAdd && keys.CmpPlace(p, d.place()) == 0 {
			l.Number += d.op.Number
		}
	}
	for _, d := range left(p, deeds) {
		l.Texts = append(l.Texts, d.op.Text)
	}
	if p.Kind == api.Set {
		slices.Sort(l.Texts)
		l.Texts = slices.Compact(l.Texts)
	}
	return l
}

func linesText(l []api.Line) string {
	var b strings.Builder
	for _, x := range l {
		fmt.Fprintf(&b, "%q %d %q %d %q\n", x.Path, x.Kind, x.Key, x.Number, x.Texts)
	}
	return b.String()
}

func shown(t tree.Tree) string { return linesText(t.Show()) }

// add, insert and so on are operations on things at the root; on those of a map m they are within it.
func opOf(do api.Do, key string, number int64, text string) api.Op {
	kind := map[api.Do]api.Kind{
		api.DoAdd: api.Counter, api.DoInsert: api.Set, api.DoRemove: api.Set, api.DoWrite: api.Register,
		api.DoPush: api.Queue, api.DoPop: api.Queue, api.DoAppend: api.Journal,
	}[do]
	return api.Op{Kind: kind, Key: key, Do: do, Number: number, Text: text}
}

func add(n int64) api.Op          { return opOf(api.DoAdd, "c", n, "") }
func insert(text string) api.Op   { return opOf(api.DoInsert, "s", 0, text) }
func remove(text string) api.Op   { return opOf(api.DoRemove, "s", 0, text) }
func write(text string) api.Op    { return opOf(api.DoWrite, "r", 0, text) }
func push(text string) api.Op     { return opOf(api.DoPush, "q", 0, text) }
func pop() api.Op                 { return opOf(api.DoPop, "q", 0, "") }
func appendOf(text string) api.Op { return opOf(api.DoAppend, "j", 0, text) }

func within(o api.Op, path ...string) api.Op {
	o.Path = path
	return o
}

// number is the counter c's.
func number(t *testing.T, s tree.Tree) int64 {
	t.Helper()
	l, _ := s.Line(nil, api.Counter, "c")
	return l.Number
}

func texts(s tree.Tree, kind api.Kind, key string) string {
	l, is := s.Line(nil, kind, key)
	if !is {
		return "none"
	}
	return strings.Join(l.Texts, " ")
}
