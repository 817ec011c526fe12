package keys_test

import (
	"fmt"
	"slices"
	"strconv"
	"strings"
	"testing"

	"estuary/api"
	"estuary/keys"
)

func wantSplit(t *testing.T, s string, want []string, wantErr api.Errno) {
	t.Helper()
	if l, e := keys.Split(s); e != wantErr || !slices.Equal(l, want) {
		t.Errorf("Split(%q): %q, %v; want %q, %v", s, l, e, want, wantErr)
	}
}

// wantPath asks that the path has this text, and the text this path (P5.4).
func wantPath(t *testing.T, l []string, text string) {
	t.Helper()
	if s, e := keys.Join(l); e != api.OK || s != text {
		t.Errorf("Join(%q): %q, %v; want %q", l, s, e, text)
	}
	wantSplit(t, text, l, api.OK)
}

// P5.2, P5.4: the chapter's examples, and paths from no key to MaxDepth keys, of one byte to MaxKey bytes each.
func TestJoinSplit(t *testing.T) {
	wantPath(t, []string{"a", "b"}, "/a/b")
	wantPath(t, nil, "/")
	wantPath(t, []string{}, "/")
	wantPath(t, []string{" ", "%", ";", "é", "\U0010ffff", "\x7f"}, "/ /%/;/é/\U0010ffff/\x7f")
	for n := range api.MaxDepth + 1 {
		for _, key := range []string{"a", "é", "\ufffd", "..", strings.Repeat("k", api.MaxKey), strings.Repeat("é", api.MaxKey/2)} {
			l := slices.Repeat([]string{key}, n)
			text := strings.Repeat("/"+key, n)
			if n == 0 {
				text = "/"
			}
			wantPath(t, l, text)
		}
	}
}

// P5.2: a path that may not be has no text.
func TestJoinRefuses(t *testing.T) {
	long := strings.Repeat("k", api.MaxKey+1)
	lists := [][]string{slices.Repeat([]string{"a"}, api.MaxDepth+1), slices.Repeat([]string{"a"}, 1000), make([]string, api.MaxDepth+1)}
	for _, key := range []string{"", "/", "/a", "a/", "a/b", "\x00", "\x1f", "\xff", "\xc3", "\xed\xa0\x80", "\xc0\xaf", long} {
		lists = append(lists, []string{key}, []string{key, "a"}, []string{"a", key}, []string{"a", "b", "c", "d", "e", key})
	}
	for _, l := range lists {
		if s, e := keys.Join(l); s != "" || e != api.ErrArg {
			t.Errorf("Join(%q): %q, %v; want ErrArg alone", l, s, e)
		}
	}
}

// P5.2: texts that are no path's.
func TestSplitRefuses(t *testing.T) {
	long := strings.Repeat("k", api.MaxKey)
	for _, s := range []string{
		"", "a", "a/b", "a/", " /a", "\\a", "//", "///", "/a/", "//a", "/a//b", "/a/b/", "/a/b//", "/a/b/c/d/e/f/",
		"/a/b/c/d/e/f/g", strings.Repeat("/a", 1000), strings.Repeat("/", 1000), strings.Repeat("a", 1<<20), "/" + strings.Repeat("a", 1<<20),
		"/" + long + "k", "/a/" + long + "k", "/" + long + "k/a", "/\x1f", "/a/\x00", "/a\n", "/\xff", "/a/\xc3", "/\xc0\xaf", "/\xed\xa0\x80/a", "\xff/a", "\xef\xbc\x8fa",
	} {
		wantSplit(t, s, nil, api.ErrBytes)
	}
}

// P5.2, P5.4: every text of up to seven bytes out of four, and every path whose text it may be.
func TestSplitAll(t *testing.T) {
	texts := []string{""}
	for from := 0; len(texts[from]) < 7; from++ {
		for _, c := range []string{"/", "a", "b", "\x1f"} {
			texts = append(texts, texts[from]+c)
		}
	}
	for _, s := range texts {
		var l []string
		if s != "/" {
			l = strings.Split(s, "/")[1:]
		}
		may := strings.HasPrefix(s, "/") && !strings.Contains(s, "\x1f") && !slices.Contains(l, "") && len(l) <= api.MaxDepth
		if !may {
			wantSplit(t, s, nil, api.ErrBytes)
			continue
		}
		wantPath(t, l, s)
	}
}

// word is a text as a word, plainly.
func word(s string) string {
	if s == "" {
		return "%"
	}
	var w string
	for _, c := range []byte(s) {
		if c >= 33 && c <= 126 && c != '%' && c != ';' {
			w += string([]byte{c})
		} else {
			w += fmt.Sprintf("%%%02X", c)
		}
	}
	return w
}

// unword takes any form of a byte; what is a word only of another form is found by the word of what it read.
func unword(s string) (string, bool) {
	var b []byte
	for i := 0; i < len(s); i++ {
		c := s[i]
		if c == '%' && i+3 <= len(s) {
			if n, err := strconv.ParseUint(s[i+1:i+3], 16, 8); err == nil {
				c, i = byte(n), i+2
			}
		}
		if s != "%" {
			b = append(b, c)
		}
	}
	return string(b), word(string(b)) == s
}

func wantUnword(t *testing.T, s string) {
	t.Helper()
	want, wantErr := "", api.ErrBytes
	if text, ok := unword(s); ok {
		want, wantErr = text, api.OK
	}
	if text, e := keys.Unword(s); text != want || e != wantErr {
		t.Errorf("Unword(%q): %q, %v; want %q, %v", s, text, e, want, wantErr)
	}
}

// wantWord asks that the text has this word, and the word this text (P5.4).
func wantWord(t *testing.T, s, want string) {
	t.Helper()
	if got := keys.Word(s); got != want {
		t.Errorf("Word(%q): %q; want %q", s, got, want)
	}
	if got, e := keys.Unword(want); got != s || e != api.OK {
		t.Errorf("Unword(%q): %q, %v; want %q", want, got, e, s)
	}
}

// P5.2, the chapter's examples, and words written out.
func TestWordExamples(t *testing.T) {
	for s, want := range map[string]string{
		"a b%": "a%20b%25", "": "%", "%": "%25", ";": "%3B", " ": "%20", "!~": "!~", "\x7f": "%7F", "\x00\xff": "%00%FF", "é": "%C3%A9",
		"/a/b": "/a/b", "%20": "%2520", "%%": "%25%25", "\n": "%0A", "\xaf": "%AF", ".": ".",
	} {
		wantWord(t, s, want)
	}
	for _, s := range []string{"%61", ""} {
		if text, e := keys.Unword(s); text != "" || e != api.ErrBytes {
			t.Errorf("Unword(%q): %q, %v; want ErrBytes alone", s, text, e)
		}
	}
}

// P5.2, P5.4: every text of one byte and of two, and long ones: also one longer than a text may be, as a path's text is.
func TestWord(t *testing.T) {
	for a := range 256 {
		one := string([]byte{byte(a)})
		wantWord(t, one, word(one))
		for b := range 256 {
			two := one + string([]byte{byte(b)})
			wantWord(t, two, word(two))
		}
		for _, n := range []int{api.MaxText - 1, api.MaxText, api.MaxText + 1, 6 * (api.MaxKey + 1)} {
			wantWord(t, strings.Repeat(one, n), strings.Repeat(word(one), n))
		}
	}
	wantWord(t, strings.Repeat(" a", 1<<20), strings.Repeat("%20a", 1<<20))
}

// P5.2: every text of up to two bytes, and of '%' with two more bytes behind it, alone and among others.
func TestUnword(t *testing.T) {
	wantUnword(t, "")
	for a := range 256 {
		one := string([]byte{byte(a)})
		wantUnword(t, one)
		wantUnword(t, one+"20") // only '%' has digits behind it
		wantUnword(t, "a"+one+"FF")
		for b := range 256 {
			two := one + string([]byte{byte(b)})
			wantUnword(t, two)
			wantUnword(t, "%"+two)
			wantUnword(t, "a%"+two+"z")
			wantUnword(t, "%00%"+two)
		}
	}
}

// P5.2: what is no word, beside which there is no text.
func TestUnwordRefuses(t *testing.T) {
	for _, s := range []string{
		"%2", "a%", "a%2", "%20%", "%20%2", "%%", "%%20", "% 20", // cut behind '%'
		"%0a", "%c3", "%Fa", "%aF", "%3b", "a%2f", // small digits
		"%61", "%41", "%2F", "%7E", "%21", "%24", "%26", "%3A", "%3C", // what should stand as it is
		"a b", " a", "a ", ";", "a;b", "\n", "é", "a\xff", "\x7f", "\x00", // what must not
		"%G0", "%0G", "%+1", "%-1", "%0x", "% 1", "%:0", "%@0", "%/0", "%0:", // no digits
	} {
		if text, e := keys.Unword(s); text != "" || e != api.ErrBytes {
			t.Errorf("Unword(%q): %q, %v; want ErrBytes alone", s, text, e)
		}
	}
	if text, e := keys.Unword(strings.Repeat("a", 1<<20) + "%"); text != "" || e != api.ErrBytes {
		t.Errorf("Unword of a long text cut behind '%%': %d bytes, %v", len(text), e)
	}
}

// P5.4: no two texts have one word, and no two paths one text.
func TestOneTextEach(t *testing.T) {
	words := map[string]string{}
	for _, s := range append(ordered(), "%", "%25", "%2525", ";", "%3B", "a%", "a;") {
		w := keys.Word(s)
		if other, is := words[w]; is {
			t.Errorf("%q and %q have one word, %q", s, other, w)
		}
		words[w] = s
		if strings.ContainsFunc(w, func(r rune) bool { return r < 33 || r > 126 || r == ';' }) {
			t.Errorf("Word(%q): %q is no word of a line", s, w)
		}
	}
	texts := map[string][]string{}
	for _, l := range orderedPaths() {
		s, e := keys.Join(l)
		if e != api.OK {
			continue
		}
		if other, is := texts[s]; is {
			t.Errorf("%q and %q have one text, %q", l, other, s)
		}
		texts[s] = l
	}
}
