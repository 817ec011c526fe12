package kinds_test

import (
	"math"
	"slices"
	"strings"
	"testing"

	"estuary/api"
	"estuary/kinds"
)

// row is a Do with its word, its kind's, and which fields it names.
type row struct {
	do           api.Do
	word         string
	kind         api.Kind
	number, text bool
	brings       bool
}

func rows() []row {
	return []row{
		{api.DoAdd, "add", api.Counter, true, false, false},
		{api.DoInsert, "insert", api.Set, false, true, true},
		{api.DoRemove, "remove", api.Set, false, true, false},
		{api.DoWrite, "write", api.Register, false, true, true},
		{api.DoPush, "push", api.Queue, false, true, true},
		{api.DoPop, "pop", api.Queue, false, false, false},
		{api.DoAppend, "append", api.Journal, false, true, true},
	}
}

func kindWords() []string {
	return []string{"counter", "set", "register", "queue", "journal", "map"}
}

// plain is the kinds that have values.
func plain() []api.Kind {
	return []api.Kind{api.Counter, api.Set, api.Register, api.Queue, api.Journal}
}

// none is numbers that are neither kinds nor Dos.
func none() []int { return []int{0, -1, -2, -7, 8, 9, 255, 256, 257, math.MinInt, math.MaxInt} }

// P9.1, the chapter's examples.
func TestWordExamples(t *testing.T) {
	if k, ok := kinds.Kind("queue"); kinds.Word(api.Set) != "set" || k != api.Queue || !ok {
		t.Error("Word, Kind")
	}
	if kinds.DoWord(api.DoPop) != "pop" || kinds.Of(api.DoWrite) != api.Register || kinds.Of(9) != 0 {
		t.Error("DoWord, Of")
	}
}

// P9.1
func TestKindWords(t *testing.T) {
	for i, word := range kindWords() {
		k := api.Kind(i + 1)
		if got := kinds.Word(k); got != word {
			t.Errorf("Word(%d): %q", k, got)
		}
		if got, ok := kinds.Kind(word); got != k || !ok {
			t.Errorf("Kind(%q): %d, %v", word, got, ok)
		}
	}
	for _, n := range append(none(), 7) {
		if got := kinds.Word(api.Kind(n)); got != "" {
			t.Errorf("Word(%d): %q", n, got)
		}
	}
}

// P9.1
func TestDoWords(t *testing.T) {
	for _, r := range rows() {
		if got := kinds.DoWord(r.do); got != r.word {
			t.Errorf("DoWord(%d): %q", r.do, got)
		}
		if got, ok := kinds.Do(r.word); got != r.do || !ok {
			t.Errorf("Do(%q): %d, %v", r.word, got, ok)
		}
		if got := kinds.Of(r.do); got != r.kind {
			t.Errorf("Of(%d): %d", r.do, got)
		}
	}
	for _, n := range none() {
		if word, k := kinds.DoWord(api.Do(n)), kinds.Of(api.Do(n)); word != "" || k != 0 {
			t.Errorf("of %d, which is no Do: %q, %d", n, word, k)
		}
	}
}

// P9.1: words that are none, those of the other list among them.
func TestNoWords(t *testing.T) {
	var words []string
	for _, r := range rows() {
		words = append(words, r.word)
	}
	words = append(words, kindWords()...)
	for _, word := range words {
		_, isKind := kinds.Kind(word)
		_, isDo := kinds.Do(word)
		if isKind == isDo {
			t.Errorf("%q is a word of both, or of none", word)
		}
		for _, s := range []string{word[1:], word[:len(word)-1], word + " ", " " + word, word + word, word + "\x00", strings.ToUpper(word), strings.ToTitle(word[:1]) + word[1:]} {
			wantNoWord(t, s)
		}
	}
	for _, s := range []string{"", " ", "fly", "1", "\xff", "\x00", "counter set", strings.Repeat("set", 1<<18)} {
		wantNoWord(t, s)
	}
}

func wantNoWord(t *testing.T, s string) {
	t.Helper()
	if k, ok := kinds.Kind(s); k != 0 || ok {
		t.Errorf("Kind(%.40q): %d, %v", s, k, ok)
	}
	if d, ok := kinds.Do(s); d != 0 || ok {
		t.Errorf("Do(%.40q): %d, %v", s, d, ok)
	}
}

// wantKinds goes over the kinds, up to some of them, and asks for them and their words.
func wantKinds(t *testing.T, all func(func(api.Kind, string) bool), most int) {
	t.Helper()
	var got []string
	for k, word := range all {
		if int(k) != len(got)+1 {
			t.Fatalf("the kind %d behind %q", k, got)
		}
		got = append(got, word)
		if len(got) == most {
			break
		}
	}
	if want := kindWords()[:most]; !slices.Equal(got, want) {
		t.Errorf("Kinds: %q, not %q", got, want)
	}
}

// P9.1: Kinds may be left anywhere, and gone over again, also while it is being gone over.
func TestKinds(t *testing.T) {
	all := kinds.Kinds()
	for most := 1; most <= 6; most++ {
		wantKinds(t, all, most)
		wantKinds(t, all, 6)
		wantKinds(t, kinds.Kinds(), most)
	}
	n := 0
	for k := range all {
		wantKinds(t, all, 6)
		n++
		if int(k) != n {
			t.Errorf("the kind %d at the step %d", k, n)
		}
	}
	if n != 6 {
		t.Errorf("%d kinds", n)
	}
}
