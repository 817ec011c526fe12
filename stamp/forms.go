package stamp

import (
	"estuary/api"
	"estuary/wire"
)

// PutBranch is a branch's form.
func PutBranch(b api.Branch) ([]byte, api.Errno) { return told(b, Branch, branchForm) }

// PutName is a name's form.
func PutName(n api.Name) ([]byte, api.Errno) { return told(n, Name, nameForm) }

// Put is a stamp's form.
func Put(s api.Stamp) ([]byte, api.Errno) { return told(s, Stamp, stampForm) }

func branchForm(b api.Branch) []byte {
	return wire.Join(wire.Number(uint64(b.Repo)), wire.Bytes([]byte(b.Label)))
}

func nameForm(n api.Name) []byte {
	return wire.Join(branchForm(n.Branch), wire.Number(uint64(n.Number)))
}

func stampForm(s api.Stamp) []byte {
	return wire.Join(wire.Number(uint64(s.Gen)), nameForm(s.Name), wire.Number(uint64(s.Index)))
}

// TakeBranch reads a branch.
func TakeBranch(r *wire.Reader) (api.Branch, api.Errno) { return taken(r, (*fields).branch, Branch) }

// TakeName reads a name.
func TakeName(r *wire.Reader) (api.Name, api.Errno) { return taken(r, (*fields).name, Name) }

// Take reads a stamp.
func Take(r *wire.Reader) (api.Stamp, api.Errno) { return taken(r, (*fields).stamp, Stamp) }

// taken is what is read where the reader is, if it may be. A copy of the reader goes ahead, so that the reader itself need not go back.
func taken[T any](r *wire.Reader, read func(*fields) T, may func(T) bool) (T, api.Errno) {
	var none T
	if r == nil {
		return none, api.ErrNil
	}
	ahead := *r
	f := fields{number: ahead.Number, bytes: ahead.Bytes}
	v := read(&f)
	switch {
	case f.wrong == api.ErrNil: // a reader that no call made
		return none, api.ErrNil
	case f.wrong != api.OK, !may(v):
		return none, api.ErrBytes
	}
	*r = ahead
	return v, api.OK
}

// fields reads one field behind the other by a reader's methods. The first error stays, and nothing is read behind it.
type fields struct {
	number func() (uint64, api.Errno)
	bytes  func(most int) ([]byte, api.Errno)
	wrong  api.Errno
}

// upTo reads a number that is at most so great: it stays the same in whatever kind of number it is then put.
func (f *fields) upTo(most uint64) uint64 {
	if f.wrong != api.OK {
		return 0
	}
	n, e := f.number()
	if n > most {
		n, e = 0, api.ErrBytes
	}
	f.wrong = e
	return n
}

func (f *fields) label() string {
	if f.wrong != api.OK {
		return ""
	}
	b, e := f.bytes(api.MaxLabel)
	f.wrong = e
	return string(b)
}

func (f *fields) branch() api.Branch {
	repo := f.upTo(api.MaxRepos - 1)
	return api.Branch{Repo: int(repo), Label: f.label()}
}

func (f *fields) name() api.Name {
	branch := f.branch()
	return api.Name{Branch: branch, Number: int64(f.upTo(api.MaxNumber))}
}

func (f *fields) stamp() api.Stamp {
	gen := f.upTo(api.MaxNumber)
	name := f.name()
	return api.Stamp{Gen: int64(gen), Name: name, Index: int(f.upTo(api.MaxOps - 1))}
}
