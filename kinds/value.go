package kinds

import (
	"slices"

	"estuary/api"
	"estuary/keys"
	"estuary/stamp"
)

// Empty is the value of a kind to which nothing was done.
func Empty(k api.Kind) (api.Value, api.Errno) {
	if !valued(k) {
		return api.Value{}, api.ErrArg
	}
	return api.Value{Kind: k}, api.OK
}

// Value tells whether v may be a value.
func Value(v api.Value) bool {
	if v.Kind == api.Counter {
		return len(v.Elements) == 0
	}
	return valued(v.Kind) && v.Number == 0 && mayStand(v.Elements)
}

// mayStand tells whether these may be the elements of a value.
func mayStand(l []api.Element) bool {
	for i, x := range l {
		if !stamp.Stamp(x.Stamp) || !keys.Text(x.Text) || !behind(x.Stamp, l[:i]) {
			return false
		}
	}
	return true
}

// behind tells whether a stamp is behind those of rising elements: the last one's is the greatest.
func behind(s api.Stamp, l []api.Element) bool {
	return len(l) == 0 || cmpStamp(l[len(l)-1], s) < 0
}

func cmpStamp(x api.Element, s api.Stamp) int { return stamp.Cmp(x.Stamp, s) }

func cmpElements(x, y api.Element) int { return stamp.Cmp(x.Stamp, y.Stamp) }

// Show is what a value shows.
func Show(v api.Value) (int64, []string, api.Errno) {
	if !Value(v) {
		return 0, nil, api.ErrArg
	}
	var texts []string
	for _, x := range v.Elements {
		texts = append(texts, x.Text)
	}
	if v.Kind == api.Set {
		slices.SortFunc(texts, keys.Cmp)
		texts = slices.Compact(texts)
	}
	return v.Number, texts, api.OK
}

// Same tells whether two values have the same fields.
func Same(a, b api.Value) bool {
	return a.Kind == b.Kind && a.Number == b.Number && slices.Equal(a.Elements, b.Elements)
}

// Apply is what an operation makes of a value.
func Apply(v api.Value, s api.Stamp, o api.Op) (api.Value, api.Errno) {
	wrong := Check(o)
	switch {
	case wrong == api.ErrArg, !Value(v), !stamp.Stamp(s), !behind(s, v.Elements):
		return api.Value{}, api.ErrArg
	case wrong == api.ErrType, o.Kind != v.Kind:
		return api.Value{}, api.ErrType
	}
	// An operation that is no add has the Number 0, and a Counter has no elements: so one line does for all kinds.
	x := api.Element{Stamp: s, Text: o.Text}
	return api.Value{Kind: v.Kind, Number: v.Number + o.Number, Elements: changed(v.Elements, o.Do, x)}, api.OK
}

// changed is what a Do makes of elements, in memory of its own.
func changed(l []api.Element, d api.Do, x api.Element) []api.Element {
	l = slices.Clone(l)
	switch d {
	case api.DoWrite:
		l = nil
		fallthrough
	case api.DoInsert, api.DoPush, api.DoAppend:
		l = append(l, x)
	case api.DoRemove:
		l = slices.DeleteFunc(l, func(y api.Element) bool { return y.Text == x.Text })
	case api.DoPop:
		l = l[min(1, len(l)):]
	}
	return l
}

// Three runs three values of one kind together.
func Three(base, a, b api.Value) (api.Value, api.Errno) {
	if !Value(base) || !Value(a) || !Value(b) || a.Kind != base.Kind || b.Kind != base.Kind {
		return api.Value{}, api.ErrArg
	}
	number := a.Number + b.Number - base.Number // 0 of all but Counters, as each of the three is
	return api.Value{Kind: base.Kind, Number: number, Elements: together(base.Elements, a.Elements, b.Elements)}, api.OK
}

// together is what stays of elements that are run together.
func together(base, a, b []api.Element) []api.Element {
	var l []api.Element
	for _, x := range a {
		if stands(x, b) || !stands(x, base) {
			l = append(l, x)
		}
	}
	for _, x := range b {
		if !stands(x, a) && !stands(x, base) {
			l = append(l, x)
		}
	}
	slices.SortFunc(l, cmpElements)
	return l
}

// stands tells whether one of rising elements has the stamp of x.
func stands(x api.Element, l []api.Element) bool {
	_, found := slices.BinarySearchFunc(l, x.Stamp, cmpStamp)
	return found
}
