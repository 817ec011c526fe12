// Package wire is layer 1: see shared/doc/01-wire.md.
package wire

import "estuary/api"

// A number's digits are to the base 128, so each brings digitBits; a byte that is not the last has more added.
const (
	digitBits = 7
	more      = 1 << digitBits
	lastPlace = 64 / digitBits
	lastMost  = 1<<(64%digitBits) - 1
)

// Number is a number's form.
func Number(n uint64) []byte {
	var b []byte
	for n >= more {
		b = append(b, byte(n%more)+more)
		n >>= digitBits
	}
	return append(b, byte(n))
}

// Signed is a signed number's form: 2 n and -2 n - 1 take turns, so that small numbers stay short on both sides of 0.
func Signed(n int64) []byte {
	if n < 0 {
		// ^n is -n - 1, which does not go round for the least number.
		return Number(2*uint64(^n) + 1)
	}
	return Number(2 * uint64(n))
}

// Flag is a flag's form.
func Flag(is bool) []byte {
	if is {
		return []byte{1}
	}
	return []byte{0}
}

// Bytes is the form of bytes.
func Bytes(b []byte) []byte { return Join(Number(uint64(len(b))), b) }

// Join is all bytes, one behind the other.
func Join(l ...[]byte) []byte {
	// It begins with no bytes of its own, so that nothing is laid into the spare room of the first ones.
	var all []byte
	for _, b := range l {
		all = append(all, b...)
	}
	return all
}

// Put is a list's form.
func Put[T any](l []T, form func(T) []byte) ([]byte, api.Errno) {
	if form == nil {
		return nil, api.ErrNil
	}
	b := Number(uint64(len(l)))
	for _, v := range l {
		// Copied at once: a form may answer the same memory each time.
		b = append(b, form(v)...)
	}
	return b, api.OK
}
