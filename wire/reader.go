package wire

import (
	"bytes"

	"estuary/api"
)

// Reader reads bytes from the first one on; made tells a reader of no bytes from one that no call made.
type Reader struct {
	left []byte
	made bool
}

// Open is a reader of a copy, which stays as it is whatever becomes of b.
func Open(b []byte) *Reader { return &Reader{left: bytes.Clone(b), made: true} }

func (r *Reader) missing() bool { return r == nil || !r.made }

// Number reads a number in its one form: each number has just these bytes, so that bytes can be held against each other.
func (r *Reader) Number() (uint64, api.Errno) {
	if r.missing() {
		return 0, api.ErrNil
	}
	var n uint64
digits:
	for place, b := range r.left {
		switch {
		case place == lastPlace && b > lastMost: // above 2^64 - 1
			break digits
		case place > 0 && b == 0: // a nought that a shorter form goes without
			break digits
		}
		n |= uint64(b%more) << (digitBits * place)
		if b < more {
			r.left = r.left[place+1:]
			return n, api.OK
		}
	}
	return 0, api.ErrBytes
}

// Signed reads a signed number.
func (r *Reader) Signed() (int64, api.Errno) {
	n, e := r.Number()
	if n%2 == 1 {
		return ^int64(n / 2), e
	}
	return int64(n / 2), e
}

// Flag reads a flag.
func (r *Reader) Flag() (bool, api.Errno) {
	if r.missing() {
		return false, api.ErrNil
	}
	if len(r.left) == 0 || r.left[0] > 1 {
		return false, api.ErrBytes
	}
	is := r.left[0] == 1
	r.left = r.left[1:]
	return is, api.OK
}

// Bytes reads bytes, at most so many.
func (r *Reader) Bytes(most int) ([]byte, api.Errno) {
	if r.missing() {
		return nil, api.ErrNil
	}
	was := *r
	n, e := r.count(most)
	if e != api.OK {
		return nil, e
	}
	if n > len(r.left) {
		*r = was
		return nil, api.ErrBytes
	}
	b := bytes.Clone(r.left[:n])
	r.left = r.left[n:]
	return b, api.OK
}

// Left is how many bytes are not read yet.
func (r *Reader) Left() int {
	if r.missing() {
		return 0
	}
	return len(r.left)
}

// End is OK where all bytes were read.
func (r *Reader) End() api.Errno {
	switch {
	case r.missing():
		return api.ErrNil
	case len(r.left) > 0:
		return api.ErrBytes
	}
	return api.OK
}

// Take reads a list, at most so long, each thing by a function that goes on where the reader is.
func Take[T any](r *Reader, most int, one func(*Reader) (T, api.Errno)) ([]T, api.Errno) {
	if r.missing() || one == nil {
		return nil, api.ErrNil
	}
	was := *r
	n, e := r.count(most)
	// The list grows as things come: how many are said to come is not yet a reason to make room.
	var l []T
things:
	for range n {
		v, wrong := one(r)
		if wrong != api.OK {
			e = wrong
			break things
		}
		l = append(l, v)
	}
	if e != api.OK {
		*r = was
		return nil, e
	}
	return l, api.OK
}

// count reads how many come, at most so many, for callers that know that the reader is there.
func (r *Reader) count(most int) (int, api.Errno) {
	if most < 0 {
		return 0, api.ErrArg
	}
	was := *r
	n, e := r.Number()
	if e != api.OK {
		return 0, e
	}
	if n > uint64(most) {
		*r = was
		return 0, api.ErrLong
	}
	return int(n), api.OK
}
