package ops

import (
	"estuary/api"
	"estuary/kinds"
	"estuary/wire"
)

// Bytes is an operation's form.
func Bytes(o api.Op) ([]byte, api.Errno) { return told(o, kinds.Check, form) }

// BytesAll is the form of a list of operations.
func BytesAll(l ...api.Op) ([]byte, api.Errno) { return told(l, checkAll, formAll) }

func form(o api.Op) []byte {
	return wire.Join(wire.Number(uint64(o.Do)), listForm(o.Path, textForm), textForm(o.Key), namedForm(o))
}

func formAll(l []api.Op) []byte { return listForm(l, form) }

// namedForm is the form of the field that the operation's Do names.
func namedForm(o api.Op) []byte {
	switch o.Do {
	case api.DoAdd:
		return wire.Signed(o.Number)
	case api.DoPop:
		return nil
	}
	return textForm(o.Text)
}

func textForm(s string) []byte { return wire.Bytes([]byte(s)) }

func listForm[T any](l []T, one func(T) []byte) []byte {
	b, _ := wire.Put(l, one) // refused just where there is no function
	return b
}

// Read is the operation whose form b is.
func Read(b []byte) (api.Op, api.Errno) { return whole(b, Take) }

// ReadAll is the list of operations whose form b is.
func ReadAll(b []byte) ([]api.Op, api.Errno) { return whole(b, takeAll) }

// whole is what take reads of b, if it leaves nothing.
func whole[T any](b []byte, take func(*wire.Reader) (T, api.Errno)) (T, api.Errno) {
	r := wire.Open(b)
	v, e := take(r)
	if e != api.OK || r.End() != api.OK {
		var none T
		return none, api.ErrBytes
	}
	return v, api.OK
}

// Take is the operation whose form stands where r is.
func Take(r *wire.Reader) (api.Op, api.Errno) {
	if r.End() == api.ErrNil {
		return api.Op{}, api.ErrNil
	}
	// A copy of the reader goes ahead, so that the reader itself need not go back.
	ahead := *r
	o, e := read(formed{&ahead})
	if e == api.OK {
		*r = ahead
	}
	return o, e
}

func takeAll(r *wire.Reader) ([]api.Op, api.Errno) { return wire.Take(r, api.MaxOps, Take) }

// formed is a source that tells what a form says.
type formed struct{ r *wire.Reader }

// do refuses what is above all Dos while the number is whole: a Do may have less room.
func (f formed) do() (api.Do, api.Errno) {
	n, e := f.r.Number()
	if n > uint64(api.DoAppend) {
		return 0, api.ErrBytes
	}
	return api.Do(n), e
}

func (f formed) path() ([]string, api.Errno) { return wire.Take(f.r, api.MaxDepth, takeKey) }

func (f formed) key() (string, api.Errno) { return takeKey(f.r) }

func (f formed) number() (int64, api.Errno) { return f.r.Signed() }

func (f formed) text() (string, api.Errno) { return takeText(f.r, api.MaxText) }

func takeKey(r *wire.Reader) (string, api.Errno) { return takeText(r, api.MaxKey) }

func takeText(r *wire.Reader, most int) (string, api.Errno) {
	b, e := r.Bytes(most)
	return string(b), e
}
