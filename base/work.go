package base

import (
	"maps"
	"strconv"

	"estuary/api"
	"estuary/graph"
	"estuary/tree"
)

// work is what one call works out. What is not there, and what is too deep, leaves it by a panic with its error: so what goes down from list to list tells of nothing else.
type work struct {
	graph  *graph.Graph
	own    func(api.Name) tree.Tree // a commit's own state
	kept   map[string]worked
	made   map[string]worked // not kept till the call is through: one that is refused keeps nothing
	depths map[string]int
}

// must is what a call answers, if that is no error.
func must[T any](answer T, e api.Errno) T {
	if e != api.OK {
		panic(e)
	}
	return answer
}

// face does a call's work, keeps the lists that it made, and is the error with which it was left.
func (b *Bases) face(do func(*work)) (e api.Errno) {
	if !b.there() {
		return api.ErrNil
	}
	defer func() {
		if left := recover(); left != nil {
			e = left.(api.Errno)
		}
	}()
	own := func(n api.Name) tree.Tree {
		t, is := b.own[n]
		if !is {
			panic(api.ErrCommit)
		}
		return t
	}
	w := &work{graph: b.graph, own: own, kept: b.kept, made: map[string]worked{}, depths: map[string]int{}}
	do(w)
	maps.Copy(b.kept, w.made)
	return api.OK
}

// of is the base of two commits whose own states are there, and what it is out of.
func (w *work) of(x, y api.Name) (tree.Tree, api.Based) {
	common := w.common([]api.Name{x}, y)
	w.own(x)
	w.own(y)
	depth := w.depth(common, 0)
	t := w.state(common)
	return t, api.Based{Common: common, Depth: depth, Merges: len(w.made), Kept: len(w.kept) + len(w.made)}
}

// common is the nearest common ancestors of a list and a commit.
func (w *work) common(l []api.Name, n api.Name) []api.Name {
	return must(w.graph.Common(l, []api.Name{n}))
}

// state is that of a list of heads: of more than one that of all but the last and the last one's, run together. Its depth is known.
func (w *work) state(l []api.Name) tree.Tree {
	if len(l) == 0 {
		return tree.Tree{}
	}
	ahead, last := cut(l)
	if len(ahead) == 0 {
		return w.own(last)
	}
	key := text(l)
	if was, is := w.found(key); is {
		return was.state
	}
	base := w.state(w.common(ahead, last))
	t, _ := tree.Merge(base, w.state(ahead), w.own(last))
	w.made[key] = worked{w.depths[key], t}
	return t
}

// found is what was worked out for a list, before or now.
func (w *work) found(key string) (worked, bool) {
	if was, is := w.kept[key]; is {
		return was, true
	}
	was, is := w.made[key]
	return was, is
}

// depth is that of a list of heads, which is itself so many bases below the one that was asked for. It is left as soon as that one is too deep, so that it does not go down a whole history; and each list is asked once, as many lists have one base.
func (w *work) depth(l []api.Name, below int) int {
	if len(l) < 2 {
		return 0
	}
	key := text(l)
	d := w.depths[key]
	if was, is := w.kept[key]; is {
		d = was.depth
	}
	if d == 0 {
		bound(below + 1)
		ahead, last := cut(l)
		d = max(w.depth(ahead, below), w.depth(w.common(ahead, last), below+1)+1)
		w.depths[key] = d
	}
	bound(below + d)
	return d
}

func bound(depth int) {
	if depth > api.MaxBase {
		panic(api.ErrDepth)
	}
}

// cut is all of a list but its last one, and that one.
func cut(l []api.Name) ([]api.Name, api.Name) { return l[:len(l)-1], l[len(l)-1] }

// text tells a list from all others: the blank parts the names, letters the numbers of one.
func text(l []api.Name) string {
	var b []byte
	for _, n := range l {
		b = strconv.AppendInt(b, int64(n.Branch.Repo), 10)
		b = append(b, n.Branch.Label...)
		b = strconv.AppendInt(b, n.Number, 10)
		b = append(b, ' ')
	}
	return string(b)
}
