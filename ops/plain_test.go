package ops_test

import (
	"fmt"
	"math"
	"reflect"
	"slices"
	"strings"
	"testing"

	"estuary/api"
)

// row is a Do as the document has it.
type row struct {
	do   api.Do
	word string
	kind api.Kind
	code byte
	has  string // the field that it names
}

func rows() []row {
	return []row{
		{api.DoAdd, "add", api.Counter, 1, "number"},
		{api.DoInsert, "insert", api.Set, 2, "text"},
		{api.DoRemove, "remove", api.Set, 3, "text"},
		{api.DoWrite, "write", api.Register, 4, "text"},
		{api.DoPush, "push", api.Queue, 5, "text"},
		{api.DoPop, "pop", api.Queue, 6, ""},
		{api.DoAppend, "append", api.Journal, 7, "text"},
	}
}

// rowOf is an operation's row.
func rowOf(o api.Op) row { return rows()[o.Do-1] }

// numberForm is a number's form, made here without layer 1: with spare digits of nought it is longer than it may be.
func numberForm(n uint64, spare int) string {
	var b []byte
	for ; n > 127; n /= 128 {
		b = append(b, byte(n%128)|128)
	}
	b = append(b, byte(n))
	for range spare {
		b[len(b)-1] |= 128
		b = append(b, 0)
	}
	return string(b)
}

// textForm is the form of a text's bytes.
func textForm(s string) string { return numberForm(uint64(len(s)), 0) + s }

// signed is the number that a signed number is laid as.
func signed(n int64) uint64 {
	if n < 0 {
		return uint64(-(n+1))*2 + 1
	}
	return uint64(n) * 2
}

// formOf is an operation's form, made here by the chapter's words.
func formOf(o api.Op) string {
	s := string([]byte{rowOf(o).code, byte(len(o.Path))})
	for _, key := range append(slices.Clone(o.Path), o.Key) {
		s += textForm(key)
	}
	switch rowOf(o).has {
	case "number":
		s += numberForm(signed(o.Number), 0)
	case "text":
		s += textForm(o.Text)
	}
	return s
}

// listForm is a list's form.
func listForm(l []api.Op) string {
	forms := []string{numberForm(uint64(len(l)), 0)}
	for _, o := range l {
		forms = append(forms, formOf(o))
	}
	return strings.Join(forms, "")
}

// wordOf is a text as a word.
func wordOf(s string) string {
	if s == "" {
		return "%"
	}
	var w strings.Builder
	for i := range len(s) {
		if c := s[i]; c < 33 || c > 126 || c == '%' || c == ';' {
			fmt.Fprintf(&w, "%%%02X", c)
		} else {
			w.WriteByte(c)
		}
	}
	return w.String()
}

// wordsOf is the words of an operation's text.
func wordsOf(o api.Op) []string {
	path := "/" + strings.Join(o.Path, "/")
	words := []string{rowOf(o).word, wordOf(path), wordOf(o.Key)}
	switch rowOf(o).has {
	case "number":
		words = append(words, fmt.Sprint(o.Number))
	case "text":
		words = append(words, wordOf(o.Text))
	}
	return words
}

func textOf(o api.Op) string { return strings.Join(wordsOf(o), " ") }

// listText is a list's text.
func listText(l []api.Op) string {
	if len(l) == 0 {
		return "."
	}
	var texts []string
	for _, o := range l {
		texts = append(texts, textOf(o))
	}
	return strings.Join(texts, "; ")
}

// opOf is an operation with what its Do names.
func opOf(r row, path []string, key string, number int64, text string) api.Op {
	o := api.Op{Path: path, Kind: r.kind, Key: key, Do: r.do}
	switch r.has {
	case "number":
		o.Number = number
	case "text":
		o.Text = text
	}
	return o
}

func goodKeys() []string {
	return []string{"k", "hits", "a b", "%", ";", "; ", ".", "%20", "-1", "é", "\u2028", "\U0010FFFF", "\uFFFD", "\x7f", " ", strings.Repeat("k", api.MaxKey), strings.Repeat("é", api.MaxKey/2), strings.Repeat("\U0001F600", api.MaxKey/4), strings.Repeat(" ", api.MaxKey)}
}

func goodPaths() [][]string {
	long := strings.Repeat(";", api.MaxKey)
	return [][]string{nil, {}, {"a"}, {"a", "b"}, {"a", "a", "a"}, {" ", "%", ";"}, {"1", "2", "3", "4", "5", "6"}, {"é", "\U0010FFFF"}, {long, long, long, long, long, long}}
}

func goodNumbers() []int64 {
	return []int64{0, 1, -1, 3, -3, 9, 10, -10, 63, 64, -64, -65, 127, 128, 300, 8191, 8192, -8192, -8193, 1 << 31, -1 << 31, 1 << 32, 1 << 62, -1 << 62, math.MaxInt64, math.MaxInt64 - 1, math.MinInt64, math.MinInt64 + 1}
}

func goodTexts() []string {
	var all []byte
	for n := range 256 {
		all = append(all, byte(n))
	}
	return []string{"", "x", "a b", "; ", ".", "%", "%41", "/", "add / k 1; pop / q", "-3", "\n", "\x00", "\xff\xfe", "é", string(all), strings.Repeat("x", api.MaxText), strings.Repeat(" ", api.MaxText), strings.Repeat("\xff", api.MaxText), strings.Repeat("x", 127), strings.Repeat("x", 128), strings.Repeat("x", 129)}
}

// goodOps is operations that may be, of all Dos: each key, each path, each number, each text.
func goodOps() []api.Op {
	var l []api.Op
	for _, r := range rows() {
		for _, path := range goodPaths() {
			for _, key := range goodKeys() {
				l = append(l, opOf(r, path, key, 3, "x y"))
			}
		}
		for _, n := range goodNumbers() {
			l = append(l, opOf(r, []string{"m"}, "k", n, ""))
		}
		for _, s := range goodTexts() {
			l = append(l, opOf(r, nil, "k", -1, s))
		}
	}
	return l
}

// wrongOp is an operation that may not be, and its error.
type wrongOp struct {
	op   api.Op
	want api.Errno
}

// wrongOps is operations that may not be, each for one reason (and ErrArg ahead of ErrType for two).
func wrongOps() []wrongOp {
	l := []wrongOp{{api.Op{}, api.ErrArg}}
	for _, r := range rows() {
		good := opOf(r, []string{"m"}, "k", 3, "x")
		add := func(want api.Errno, change func(o *api.Op)) {
			o := good
			change(&o)
			l = append(l, wrongOp{o, want})
		}
		for _, key := range []string{"", "a/b", "/", "\x1f", "\n", "\xff", "\xc3", "\xed\xa0\x80", strings.Repeat("k", api.MaxKey+1), strings.Repeat("k", 1<<16)} {
			add(api.ErrArg, func(o *api.Op) { o.Key = key })
			add(api.ErrArg, func(o *api.Op) { o.Path = []string{"m", key} })
		}
		add(api.ErrArg, func(o *api.Op) { o.Path = []string{"1", "2", "3", "4", "5", "6", "7"} })
		for _, n := range []int{0, -1, 6, 7, math.MaxInt, math.MinInt} {
			add(api.ErrArg, func(o *api.Op) { o.Kind = api.Kind(n) })
		}
		for _, n := range []int{0, -1, 8, 257, 1<<32 + 1, math.MaxInt, math.MinInt} {
			add(api.ErrArg, func(o *api.Op) { o.Do = api.Do(n) })
		}
		for k := api.Counter; k <= api.Journal; k++ {
			if k != r.kind {
				add(api.ErrType, func(o *api.Op) { o.Kind = k })
				add(api.ErrArg, func(o *api.Op) { o.Kind, o.Key = k, "" })
			}
		}
		add(api.ErrArg, func(o *api.Op) { o.Text = strings.Repeat("x", api.MaxText+1) })
		if r.has != "number" {
			add(api.ErrArg, func(o *api.Op) { o.Number = 1 })
		}
		if r.has != "text" {
			add(api.ErrArg, func(o *api.Op) { o.Text = "x" })
		}
	}
	return l
}

// same holds two operations against each other without the package.
func same(a, b api.Op) bool {
	alike := slices.Equal(a.Path, b.Path)
	a.Path, b.Path = nil, nil
	return alike && reflect.DeepEqual(a, b)
}

func isZero(o api.Op) bool { return o.Path == nil && same(o, api.Op{}) }

// wantOp asks for an operation, and no error.
func wantOp(t *testing.T, what string, got api.Op, e api.Errno, want api.Op) {
	t.Helper()
	if !same(got, want) || e != api.OK {
		t.Fatalf("%.200s: %.300q, %v; want %.300q", what, fmt.Sprint(got), e, fmt.Sprint(want))
	}
}

// wantNone asks for an error, and nothing beside it.
func wantNone(t *testing.T, what string, got api.Op, e, want api.Errno) {
	t.Helper()
	if !isZero(got) || e != want {
		t.Fatalf("%.200s: %.300q, %v; want %v", what, fmt.Sprint(got), e, want)
	}
}

// wantOps asks for a list, and no error.
func wantOps(t *testing.T, what string, got []api.Op, e api.Errno, want []api.Op) {
	t.Helper()
	if !slices.EqualFunc(got, want, same) || e != api.OK {
		t.Fatalf("%.200s: %d operations, %v; want %d", what, len(got), e, len(want))
	}
}

// wantNoOps asks for an error, and no list.
func wantNoOps(t *testing.T, what string, got []api.Op, e, want api.Errno) {
	t.Helper()
	if got != nil || e != want {
		t.Fatalf("%.200s: %d operations, %v; want %v", what, len(got), e, want)
	}
}
