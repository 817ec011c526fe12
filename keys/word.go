package keys

import (
	"strings"

	"estuary/api"
)

const (
	mark   = '%'
	none   = "%" // the word of the text without bytes
	digits = "0123456789ABCDEF"
)

// stands tells whether a byte stands in a word as it is: a blank ends a word, a semicolon an operation.
func stands(c byte) bool { return c > ' ' && c <= '~' && c != mark && c != ';' }

// Word is a text as a word of a line.
func Word(s string) string {
	if s == "" {
		return none
	}
	var w strings.Builder
	for _, c := range []byte(s) {
		if stands(c) {
			w.WriteByte(c)
			continue
		}
		w.WriteByte(mark)
		w.WriteByte(digits[c>>4])
		w.WriteByte(digits[c&15])
	}
	return w.String()
}

// Unword is the text of a word.
func Unword(s string) (string, api.Errno) {
	switch s {
	case "":
		return "", api.ErrBytes
	case none:
		return "", api.OK
	}
	var text strings.Builder
	for rest := s; rest != ""; {
		c, n := first(rest)
		if n == 0 {
			return "", api.ErrBytes
		}
		text.WriteByte(c)
		rest = rest[n:]
	}
	return text.String(), api.OK
}

// first is the byte that the front of a word tells, and how many bytes tell it; 0, if none does. A byte that stands as it is has no other form: each text has one word.
func first(s string) (byte, int) {
	if stands(s[0]) {
		return s[0], 1
	}
	if s[0] != mark || len(s) < 3 {
		return 0, 0
	}
	high, low := strings.IndexByte(digits, s[1]), strings.IndexByte(digits, s[2])
	if high < 0 || low < 0 {
		return 0, 0
	}
	if c := byte(high<<4 | low); !stands(c) {
		return c, 3
	}
	return 0, 0
}
