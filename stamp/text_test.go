package stamp_test

import (
	"math"
	"regexp"
	"strconv"
	"strings"
	"testing"

	"estuary/api"
	"estuary/stamp"
)

// reading is one of the three kinds of things, as texts.
type reading struct {
	what  string
	text  func(api.Stamp) (string, api.Errno)
	parse func(string) (any, api.Errno)
	of    func(api.Stamp) any
	zero  any
	parts func(api.Stamp) []string
}

func parsing[T any](parse func(string) (T, api.Errno)) func(string) (any, api.Errno) {
	return func(s string) (any, api.Errno) {
		v, e := parse(s)
		return v, e
	}
}

// parts is the parts of a stamp's text; those of its name are 1 to 3, of its branch 1 and 2.
func parts(s api.Stamp) []string {
	return []string{strconv.FormatInt(s.Gen, 10), strconv.Itoa(s.Name.Branch.Repo), s.Name.Branch.Label, strconv.FormatInt(s.Name.Number, 10), strconv.Itoa(s.Index)}
}

func readings() []reading {
	return []reading{
		{"branch", func(s api.Stamp) (string, api.Errno) { return stamp.TextBranch(s.Name.Branch) }, parsing(stamp.ParseBranch), func(s api.Stamp) any { return s.Name.Branch }, api.Branch{}, func(s api.Stamp) []string { return parts(s)[1:3] }},
		{"name", func(s api.Stamp) (string, api.Errno) { return stamp.TextName(s.Name) }, parsing(stamp.ParseName), func(s api.Stamp) any { return s.Name }, api.Name{}, func(s api.Stamp) []string { return parts(s)[1:4] }},
		{"stamp", stamp.Text, parsing(stamp.Parse), func(s api.Stamp) any { return s }, api.Stamp{}, parts},
	}
}

func wantNoText(t *testing.T, k reading, s string) {
	t.Helper()
	if got, e := k.parse(s); got != k.zero || e != api.ErrBytes {
		t.Errorf("the %s of the text %.60q: %v, %v", k.what, s, got, e)
	}
}

// P6.3, the chapter's examples.
func TestTextExamples(t *testing.T) {
	if s, e := stamp.TextName(sample().Name); s != "1.main.3" || e != api.OK {
		t.Errorf("TextName: %q, %v", s, e)
	}
	if s, e := stamp.Text(sample()); s != "5.1.main.3.0" || e != api.OK {
		t.Errorf("Text: %q, %v", s, e)
	}
	if s, e := stamp.TextBranch(sample().Name.Branch); s != "1.main" || e != api.OK {
		t.Errorf("TextBranch: %q, %v", s, e)
	}
	if n, e := stamp.ParseName("1.main.03"); n != (api.Name{}) || e != api.ErrBytes {
		t.Errorf("ParseName(1.main.03): %v, %v", n, e)
	}
	if s, e := stamp.Parse("5.1.main.3.64"); s != (api.Stamp{}) || e != api.ErrBytes {
		t.Errorf("Parse(5.1.main.3.64): %v, %v", s, e)
	}
}

// P6.3, P6.5
func TestTextParse(t *testing.T) {
	all := goodStamps()
	for _, n := range goodNumbers() {
		for _, index := range goodIndexes() {
			for _, repo := range goodRepos() {
				all = append(all, api.Stamp{Gen: n, Name: nameOf(repo, "main", n), Index: index})
			}
		}
	}
	for _, k := range readings() {
		for _, s := range all {
			text, e := k.text(s)
			if want := strings.Join(k.parts(s), "."); text != want || e != api.OK {
				t.Fatalf("the text of the %s of %v: %q, %v; want %q", k.what, s, text, e, want)
			}
			if got, e := k.parse(text); got != k.of(s) || e != api.OK {
				t.Fatalf("the %s of %q: %v, %v", k.what, text, got, e)
			}
		}
	}
	for _, text := range []string{"1.0.a.1.0", "4611686018427387904.7.zzzzzzzzzzzz.4611686018427387904.63"} {
		if s, e := stamp.Parse(text); e != api.OK || !stamp.Stamp(s) {
			t.Errorf("Parse(%q): %v, %v", text, s, e)
		}
	}
}

// P6.3: what may not be has no text, and what would be it is none.
func TestTextRefused(t *testing.T) {
	for _, b := range badBranches() {
		if s, e := stamp.TextBranch(b); s != "" || e != api.ErrArg {
			t.Errorf("TextBranch(%v): %q, %v", b, s, e)
		}
		wantNoText(t, readings()[0], strings.Join(readings()[0].parts(api.Stamp{Name: api.Name{Branch: b}}), "."))
	}
	for _, n := range badNames() {
		if s, e := stamp.TextName(n); s != "" || e != api.ErrArg {
			t.Errorf("TextName(%v): %q, %v", n, s, e)
		}
		wantNoText(t, readings()[1], strings.Join(readings()[1].parts(api.Stamp{Name: n}), "."))
	}
	for _, s := range badStamps() {
		if text, e := stamp.Text(s); text != "" || e != api.ErrArg {
			t.Errorf("Text(%v): %q, %v", s, text, e)
		}
		wantNoText(t, readings()[2], strings.Join(parts(s), "."))
	}
}

// P6.3: each part written otherwise than it is, or gone, or doubled, or with more around it.
func TestParseOtherwise(t *testing.T) {
	all := append(goodStamps()[:60], sample(), api.Stamp{Gen: 10, Name: nameOf(7, "zzz", 20), Index: 30})
	for _, k := range readings() {
		for _, s := range all {
			own := k.parts(s)
			for at, part := range own {
				for _, other := range []string{"", "0" + part, "00" + part, "+" + part, "-" + part, " " + part, part + " ", part + ".", "." + part, part + "." + part, part + ",", part + "_", "0x" + part, part + ".0", part + "e0", part + "\x00", "\n" + part, part + "\n", "\xff" + part, strings.ToUpper(part) + "A", "１", "٣"} {
					l := append([]string(nil), own...)
					l[at] = other
					if text := strings.Join(l, "."); text != strings.Join(own, ".") {
						wantNoText(t, k, text)
					}
				}
				less := append(append([]string(nil), own[:at]...), own[at+1:]...)
				wantNoText(t, k, strings.Join(less, "."))
			}
			whole := strings.Join(own, ".")
			for n := range whole {
				if !strings.Contains("0123456789abcdefghijklmnopqrstuvwxyz", whole[n:n+1]) {
					wantNoText(t, k, whole[:n])
					wantNoText(t, k, whole[:n+1])
				}
			}
			for _, sep := range []string{"", " ", "..", "/", ",", ". "} {
				wantNoText(t, k, strings.Join(own, sep))
			}
		}
		for _, text := range []string{"", ".", "..", "...", "....", ".....", "0", "a", "main", "0.", ".a", "0.a.", ".0.a", "1..1", "1.0..1.0", "\xff", "é", strings.Repeat(".", 1<<16), strings.Repeat("1", 1<<16), strings.Repeat("1.", 1<<15), "0." + strings.Repeat("a", 1<<16)} {
			wantNoText(t, k, text)
		}
	}
}

// P6.3: numbers of MaxNumber and more, and such as go round to one that may be.
func TestParseGreat(t *testing.T) {
	for _, n := range []string{"4611686018427387905", "9223372036854775807", "9223372036854775808", "9223372036854775809", "18446744073709551615", "18446744073709551616", "18446744073709551617", "18446744073709551619", "340282366920938463463374607431768211457", "-1", "-0", "0", "-18446744073709551615"} {
		wantNoText(t, readings()[1], "1.main."+n)
		wantNoText(t, readings()[2], n+".1.main.3.0")
		wantNoText(t, readings()[2], "5.1.main."+n+".0")
		if n != "0" {
			wantNoText(t, readings()[0], n+".main")
			wantNoText(t, readings()[1], n+".main.3")
			wantNoText(t, readings()[2], "5.1.main.3."+n)
		}
	}
	for _, n := range []string{"8", "9", "10", "256", "257", "4294967296", "4294967297", "18446744073709551616"} {
		wantNoText(t, readings()[0], n+".main")
		wantNoText(t, readings()[1], n+".main.3")
		wantNoText(t, readings()[2], "5."+n+".main.3.0")
	}
	for _, n := range []string{"64", "65", "100", "256", "320", "4294967296", "4294967300"} {
		wantNoText(t, readings()[2], "5.1.main.3."+n)
	}
	if n, e := stamp.ParseName("1.main." + strconv.Itoa(math.MaxInt64/2+1)); n.Number != api.MaxNumber || e != api.OK {
		t.Errorf("ParseName of MaxNumber: %v, %v", n, e)
	}
}

// P6.3: the text of one kind is not that of another.
func TestParseOtherKind(t *testing.T) {
	for _, s := range goodStamps() {
		for i, k := range readings() {
			text, _ := k.text(s)
			for j, other := range readings() {
				if i != j {
					wantNoText(t, other, text)
				}
			}
		}
	}
}

// P6.3: all texts of up to six of some bytes, alone and within a stamp's, held against what a text is.
func TestParseAny(t *testing.T) {
	forms := []*regexp.Regexp{
		regexp.MustCompile(`\A[0-7]\.[a-z]{1,12}\z`),
		regexp.MustCompile(`\A[0-7]\.[a-z]{1,12}\.[1-9][0-9]*\z`),
		regexp.MustCompile(`\A[1-9][0-9]*\.[0-7]\.[a-z]{1,12}\.[1-9][0-9]*\.([0-9]|[1-5][0-9]|6[0-3])\z`),
	}
	all := readings()
	ask := func(s string) {
		for i, k := range all {
			got, e := k.parse(s)
			if forms[i].MatchString(s) != (e == api.OK) || e != api.OK && (e != api.ErrBytes || got != k.zero) {
				t.Fatalf("the %s of %q: %v, %v", k.what, s, got, e)
			}
		}
	}
	var grow func(s string, left int)
	grow = func(s string, left int) {
		ask(s)
		ask("5." + s + ".3")
		if left == 0 {
			return
		}
		for _, c := range []string{"0", "1", "8", ".", "a", "-", "+"} {
			grow(s+c, left-1)
		}
	}
	grow("", 6)
}

// P6.5: of two that are unlike the texts are unlike.
func TestTextsApart(t *testing.T) {
	for _, k := range readings() {
		whose := map[string]any{}
		for _, s := range goodStamps() {
			text, _ := k.text(s)
			if was, has := whose[text]; has && was != k.of(s) {
				t.Fatalf("%v and %v have the text %q", was, s, text)
			}
			whose[text] = k.of(s)
		}
	}
}
