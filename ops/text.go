package ops

import (
	"strconv"
	"strings"

	"estuary/api"
	"estuary/keys"
	"estuary/kinds"
)

const (
	blank = " "
	next  = "; " // between two operations: a word has neither of the two
	none  = "."  // the text of no operations
)

// Text is an operation's text.
func Text(o api.Op) (string, api.Errno) { return told(o, kinds.Check, text) }

// TextAll is the text of a list of operations.
func TextAll(l ...api.Op) (string, api.Errno) { return told(l, checkAll, textAll) }

func text(o api.Op) string {
	path, _ := keys.Join(o.Path) // refused just where the operation may not be
	words := []string{kinds.DoWord(o.Do), keys.Word(path), keys.Word(o.Key)}
	switch o.Do {
	case api.DoAdd:
		words = append(words, strconv.FormatInt(o.Number, 10))
	case api.DoPop:
	default:
		words = append(words, keys.Word(o.Text))
	}
	return strings.Join(words, blank)
}

func textAll(l []api.Op) string {
	if len(l) == 0 {
		return none
	}
	var texts []string
	for _, o := range l {
		texts = append(texts, text(o))
	}
	return strings.Join(texts, next)
}

// Parse is the operation whose text s is.
func Parse(s string) (api.Op, api.Errno) {
	words := pieces(s, blank)
	o, e := read(spoken{words})
	if _, more := words(); more {
		return api.Op{}, api.ErrBytes
	}
	return o, e
}

// ParseAll is the list of operations whose text s is.
func ParseAll(s string) ([]api.Op, api.Errno) {
	if s == none {
		return nil, api.OK
	}
	var l []api.Op
	texts := pieces(s, next)
	for one, more := texts(); more; one, more = texts() {
		o, e := Parse(one)
		if e != api.OK || len(l) == api.MaxOps {
			return nil, api.ErrBytes
		}
		l = append(l, o)
	}
	return l, api.OK
}

// pieces tells what stands between the signs in s, one piece a call, and false behind the last one.
func pieces(s, sign string) func() (string, bool) {
	left, more := s, true
	return func() (string, bool) {
		if !more {
			return "", false
		}
		var piece string
		piece, left, more = strings.Cut(left, sign)
		return piece, true
	}
}

// spoken is a source that tells what the words of a text say.
type spoken struct{ words func() (string, bool) }

// word is the next word, or no bytes, which are no word's.
func (s spoken) word() string {
	word, _ := s.words()
	return word
}

func (s spoken) do() (api.Do, api.Errno) {
	d, is := kinds.Do(s.word())
	if !is {
		return 0, api.ErrBytes
	}
	return d, api.OK
}

func (s spoken) path() ([]string, api.Errno) {
	path, e := s.text()
	if e != api.OK {
		return nil, e
	}
	return keys.Split(path)
}

func (s spoken) key() (string, api.Errno) { return s.text() }

// number takes a number just as it would be told.
func (s spoken) number() (int64, api.Errno) {
	word := s.word()
	n, wrong := strconv.ParseInt(word, 10, 64)
	if wrong != nil || strconv.FormatInt(n, 10) != word {
		return 0, api.ErrBytes
	}
	return n, api.OK
}

func (s spoken) text() (string, api.Errno) { return keys.Unword(s.word()) }
