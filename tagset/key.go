package tagset

import (
	"strings"

	"estuary/api"
	"estuary/stamp"
)

// Within a key a byte 0 of a text is followed by a 1, and a text's end is two bytes 0: no text's end is within another one, and a text is ahead of those that it is a beginning of.
const (
	nought = "\x00"
	kept   = "\x00\x01"
	end    = "\x00\x00"
)

// Key is a tag's key.
func Key(text string, s api.Stamp) (string, api.Errno) {
	at, e := stamp.Key(s)
	if e != api.OK || !mayBeText(text) {
		return "", api.ErrArg
	}
	return front(text) + at, api.OK
}

// OfKey is the tag of a key.
func OfKey(key string) (api.Element, bool) {
	ahead, _, _ := strings.Cut(key, end)
	text := strings.ReplaceAll(ahead, kept, nought)
	s, is := tag(key, text)
	if !is {
		return api.Element{}, false
	}
	return api.Element{Stamp: s, Text: text}, true
}

// tag is the stamp in a key, if that is the key of a tag of this text.
func tag(key, text string) (api.Stamp, bool) {
	if !mayBeText(text) {
		return api.Stamp{}, false
	}
	at, begins := strings.CutPrefix(key, front(text))
	if !begins {
		return api.Stamp{}, false
	}
	s, e := stamp.OfKey(at)
	return s, e == api.OK
}

// front is what the keys of all tags of a text begin with, and those of no other text.
func front(text string) string {
	b := make([]byte, 0, len(text)+len(end))
	for _, c := range []byte(text) {
		switch c {
		case 0:
			b = append(b, c)
			c = 1
			fallthrough
		default:
			b = append(b, c)
		}
	}
	return string(append(b, end...))
}

func mayBeText(text string) bool { return len(text) <= api.MaxText }
