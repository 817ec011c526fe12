package ops_test

import (
	"fmt"
	"math"
	"slices"
	"strings"
	"testing"

	"estuary/api"
	"estuary/ops"
)

func wantParsed(t *testing.T, s string, want api.Op) {
	t.Helper()
	got, e := ops.Parse(s)
	wantOp(t, "Parse of "+s, got, e, want)
	l, e := ops.ParseAll(s)
	wantOps(t, "ParseAll of "+s, l, e, []api.Op{want})
}

// wantNoText asks that a text is no operation's, alone, in a list, and among others.
func wantNoText(t *testing.T, s string) {
	t.Helper()
	got, e := ops.Parse(s)
	wantNone(t, "Parse of "+s, got, e, api.ErrBytes)
	for _, list := range []string{s, s + "; pop / q", "pop / q; " + s, "pop / q; " + s + "; pop / q"} {
		if s == "." && list == s {
			continue
		}
		l, e := ops.ParseAll(list)
		wantNoOps(t, "ParseAll of "+list, l, e, api.ErrBytes)
	}
}

// P16.1: the chapter's examples, and texts of all Dos written by hand.
func TestTextsByHand(t *testing.T) {
	for s, o := range map[string]api.Op{
		"add / hits 3":                 {Kind: api.Counter, Key: "hits", Do: api.DoAdd, Number: 3},
		"pop /a/b q":                   {Path: []string{"a", "b"}, Kind: api.Queue, Key: "q", Do: api.DoPop},
		"insert / s %":                 {Kind: api.Set, Key: "s", Do: api.DoInsert},
		"insert /m s x":                {Path: []string{"m"}, Kind: api.Set, Key: "s", Do: api.DoInsert, Text: "x"},
		"remove /m s x%20y":            {Path: []string{"m"}, Kind: api.Set, Key: "s", Do: api.DoRemove, Text: "x y"},
		"write /m r %3B":               {Path: []string{"m"}, Kind: api.Register, Key: "r", Do: api.DoWrite, Text: ";"},
		"push / q %00%FF":              {Kind: api.Queue, Key: "q", Do: api.DoPush, Text: "\x00\xff"},
		"append / j a/b":               {Kind: api.Journal, Key: "j", Do: api.DoAppend, Text: "a/b"},
		"pop / q":                      {Kind: api.Queue, Key: "q", Do: api.DoPop},
		"pop /a%20b/%25 %C3%A9":        {Path: []string{"a b", "%"}, Kind: api.Queue, Key: "é", Do: api.DoPop},
		"add / c 0":                    {Kind: api.Counter, Key: "c", Do: api.DoAdd},
		"add / c -3":                   {Kind: api.Counter, Key: "c", Do: api.DoAdd, Number: -3},
		"add / - -10":                  {Kind: api.Counter, Key: "-", Do: api.DoAdd, Number: -10},
		"add / c 9223372036854775807":  {Kind: api.Counter, Key: "c", Do: api.DoAdd, Number: math.MaxInt64},
		"add / c -9223372036854775808": {Kind: api.Counter, Key: "c", Do: api.DoAdd, Number: math.MinInt64},
		"pop /1/2/3/4/5/6 " + strings.Repeat("%20", 64): {Path: []string{"1", "2", "3", "4", "5", "6"}, Kind: api.Queue, Key: strings.Repeat(" ", 64), Do: api.DoPop},
		"write / r " + strings.Repeat("%25", 256):       {Kind: api.Register, Key: "r", Do: api.DoWrite, Text: strings.Repeat("%", 256)},
	} {
		if got, e := ops.Text(o); got != s || e != api.OK {
			t.Errorf("Text of %v: %q, %v; want %q", o, got, e, s)
		}
		wantParsed(t, s, o)
	}
	for _, s := range []string{"add / hits 03", "pop / q x", "add /a/ k 1"} {
		wantNoText(t, s)
	}
}

// P16.1, P16.4: what may be is told by its text, and read as it was.
func TestTextParse(t *testing.T) {
	texts := map[string]api.Op{}
	for _, o := range goodOps() {
		s, e := ops.Text(o)
		if want := textOf(o); s != want || e != api.OK {
			t.Fatalf("Text of %v: %q, %v; want %q", o, s, e, want)
		}
		wantParsed(t, s, o)
		if was, has := texts[s]; has && !same(was, o) {
			t.Fatalf("%v and %v have one text", was, o)
		}
		texts[s] = o
	}
}

// P16.1: what may not be has no text: layer 9's error.
func TestTextRefused(t *testing.T) {
	for _, w := range wrongOps() {
		if s, e := ops.Text(w.op); s != "" || e != w.want {
			t.Errorf("Text of %.200v: %q, %v; want %v", w.op, s, e, w.want)
		}
	}
}

// P16.1: a sign too many or too few anywhere, and other blanks.
func TestTextBlanks(t *testing.T) {
	for _, r := range rows() {
		words := wordsOf(opOf(r, []string{"a", "b"}, "k", 31, "xy"))
		s := strings.Join(words, " ")
		for _, wrong := range []string{" " + s, s + " ", "\t" + s, s + "\n", s + "\r\n", s + ";", s + "; ", ";" + s, "; " + s, s + "; ; " + s, s + ";" + s, s + " ;" + s, s + ";  " + s, s + " " + s, s + s, s + " .", s + "; .", ". " + s, ".; " + s, s + "\x00", "\ufeff" + s} {
			wantNoText(t, wrong)
		}
		for _, blank := range []string{"  ", "\t", "\n", "\u00a0", " \t", "", "%20", "+", ",", "; "} {
			wantNoText(t, strings.Join(words, blank))
			for i := 1; i < len(words); i++ {
				wantNoText(t, strings.Join(words[:i], " ")+blank+strings.Join(words[i:], " "))
			}
		}
	}
	for _, s := range []string{"", " ", "  ", "   ", ".", "..", " .", ". ", ".; .", ";", "; ", "; ; ", "/", "%", "% % %", "add", "pop", "pop /", "pop / ", "add / k", "add / k ", "\xff", strings.Repeat(" ", 1<<16), strings.Repeat("; ", 1<<16), strings.Repeat("%", 1<<16), strings.Repeat("/", 1<<16)} {
		got, e := ops.Parse(s)
		wantNone(t, "Parse of "+s, got, e, api.ErrBytes)
		if s != "." {
			l, e := ops.ParseAll(s)
			wantNoOps(t, "ParseAll of "+s, l, e, api.ErrBytes)
		}
	}
}

// P16.1: a word too few, one too many, one in another one's place.
func TestTextWords(t *testing.T) {
	for _, r := range rows() {
		words := wordsOf(opOf(r, []string{"a"}, "k", 7, "7"))
		for i := range words {
			wantNoText(t, strings.Join(slices.Delete(slices.Clone(words), i, i+1), " "))
		}
		for _, more := range []string{"%", "x", "0", "3", "/", "."} {
			wantNoText(t, strings.Join(append(slices.Clone(words), more), " "))
		}
		for _, do := range []string{"", "Add", "ADD", "a", "ad", "adds", "%61dd", "fly", "counter", "set", "map", "1", "%", "pop;", wordOf(r.word + " ")} {
			words[0] = do
			wantNoText(t, strings.Join(words, " "))
		}
		for _, other := range rows() {
			words[0] = other.word
			s := strings.Join(words, " ")
			if (other.has == "") == (r.has == "") {
				wantParsed(t, s, opOf(other, []string{"a"}, "k", 7, "7"))
			} else {
				wantNoText(t, s)
			}
		}
	}
}

// P16.1: words written otherwise than layer 5 writes them, in each place.
func TestTextOtherWords(t *testing.T) {
	wrong := []string{"", "%6B", "%2f", "%c3%a9", "é", "k%", "%2", "%0", "%%", "%zz", "k;", ";", "\x00", "\x7f", "\xff", "k%20%", "% ", "%2B"}
	for _, r := range rows() {
		words := wordsOf(opOf(r, []string{"a"}, "k", 7, "x"))
		for at := 1; at < len(words); at++ {
			was := words[at]
			for _, w := range wrong {
				words[at] = w
				if at == 1 {
					words[at] = "/" + w
				}
				if words[at] != "/" {
					wantNoText(t, strings.Join(words, " "))
				}
			}
			words[at] = was
		}
		for _, path := range []string{"%", "a", "a/b", "//", "///", "/a/", "//a", "/a//b", "/a/b/", "%2F", "%2Fa", "/a%2Fb", "/%1F", "/%FF", "/%C3", "/.%00", "/1/2/3/4/5/6/7", "/" + strings.Repeat("k", api.MaxKey+1), strings.Repeat("/", 8), strings.Repeat("/k", 1<<15), "."} {
			words[1] = path
			wantNoText(t, strings.Join(words, " "))
		}
		words[1] = "/"
		for _, key := range []string{"%", "/", "a/b", "/a", "%1F", "%0A", "%FF", "%C3", "%ED%A0%80", strings.Repeat("k", api.MaxKey+1), strings.Repeat("k", 1<<16), strings.Repeat("%20", api.MaxKey+1)} {
			words[2] = key
			wantNoText(t, strings.Join(words, " "))
		}
		if r.has == "text" {
			for _, long := range []string{strings.Repeat("x", api.MaxText+1), strings.Repeat("%00", api.MaxText+1), strings.Repeat("x", 1<<20)} {
				wantNoText(t, r.word+" / k "+long)
			}
		}
	}
}

// P16.1: numbers with a nought or a plus ahead, and what is none.
func TestTextNumbers(t *testing.T) {
	for _, n := range []string{"", "03", "00", "-0", "+0", "+3", "-03", "--3", "- 3", "3.", "3.0", ".3", "3e2", "0x3", "1_000", "1,000", "%33", "%", "３", "a", "-", "+", "3-", "9223372036854775808", "-9223372036854775809", "18446744073709551616", "18446744073709551619", strings.Repeat("9", 1<<16), "0" + strings.Repeat("0", 1<<16), "3\x00", "nil", "true"} {
		wantNoText(t, "add / k "+n)
	}
	for n := int64(-1100); n <= 1100; n++ {
		wantParsed(t, fmt.Sprintf("add / k %d", n), api.Op{Kind: api.Counter, Key: "k", Do: api.DoAdd, Number: n})
	}
}

// P16.1: each byte of a text changed, left out, or put in: what is read then is what has that very text.
func TestTextChanged(t *testing.T) {
	check := func(s string) {
		t.Helper()
		got, e := ops.Parse(s)
		if e != api.OK {
			wantNone(t, "Parse of "+s, got, e, api.ErrBytes)
			return
		}
		if again, f := ops.Text(got); again != s || f != api.OK || textOf(got) != s {
			t.Fatalf("Parse of %q: %v, whose text is %q, %v", s, got, again, f)
		}
	}
	for _, r := range rows() {
		s := textOf(opOf(r, []string{"a b", "c"}, "k;", -305, "x%y\xff"))
		for at := range s {
			check(s[:at] + s[at+1:])
			for n := range 256 {
				c := string([]byte{byte(n)})
				check(s[:at] + c + s[at+1:])
				check(s[:at] + c + s[at:])
			}
		}
	}
}

// P16.1: all texts of a few pieces: what is read is what has that very text, and nothing else is refused.
func TestTextOfFew(t *testing.T) {
	right := map[string]api.Op{}
	for _, r := range rows() {
		for _, path := range [][]string{nil, {"k"}, {"0"}, {"k", "0"}} {
			for _, key := range []string{"k", "0", "."} {
				for _, text := range []string{"", "k", "0", ".", "/", "/k"} {
					for _, n := range []int64{0, 1} {
						o := opOf(r, path, key, n, text)
						right[textOf(o)] = o
					}
				}
			}
		}
	}
	got, pieces := 0, []string{"add", "insert", "pop", "append", " ", "/", "k", "0", "%", ".", ";"}
	var all func(s string, left int)
	all = func(s string, left int) {
		o, e := ops.Parse(s)
		if want, is := right[s]; is {
			got++
			wantOp(t, "Parse of "+s, o, e, want)
		} else if e == api.OK && textOf(o) != s || e != api.OK && (!isZero(o) || e != api.ErrBytes) {
			t.Fatalf("Parse of %q: %v, %v", s, o, e)
		}
		if left > 0 {
			for _, piece := range pieces {
				all(s+piece, left-1)
			}
		}
	}
	for _, start := range []string{"pop /", "add / ", "append / k ", "insert /k", ""} {
		all(start, 4)
	}
	if got < 20 {
		t.Errorf("just %d texts were right", got)
	}
}
