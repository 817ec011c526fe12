package stamp

import "estuary/api"

// A key has eight bytes of a long number, one of a small one; a byte 0 ends the label, so that a label is ahead of those that it is a beginning of.
const (
	long    = 8
	repoAt  = long
	labelAt = repoAt + 1
	behind  = 1 + long + 1 // the byte 0, Number, Index
	end     = "\x00"
)

// Key is a stamp's key.
func Key(s api.Stamp) (string, api.Errno) { return told(s, Stamp, stampKey) }

func stampKey(s api.Stamp) string {
	b := s.Name.Branch
	return highest(s.Gen) + one(b.Repo) + b.Label + end + highest(s.Name.Number) + one(s.Index)
}

// OfKey is the stamp of a key.
func OfKey(key string) (api.Stamp, api.Errno) {
	if len(key) < labelAt+behind {
		return api.Stamp{}, api.ErrBytes
	}
	endAt := len(key) - behind
	numberAt, indexAt := endAt+1, len(key)-1
	branch := api.Branch{Repo: int(key[repoAt]), Label: key[labelAt:endAt]}
	name := api.Name{Branch: branch, Number: ofHighest(key[numberAt:indexAt])}
	return meant(api.Stamp{Gen: ofHighest(key[:repoAt]), Name: name, Index: int(key[indexAt])}, key, Key)
}

// highest is a number's eight bytes, the highest first: so they are ordered as the numbers are.
func highest(n int64) string {
	var b [long]byte
	for i := long - 1; i >= 0; i-- {
		b[i] = byte(n)
		n >>= 8
	}
	return string(b[:])
}

// ofHighest is the number of eight bytes; it goes below 0 where they are above all that may be.
func ofHighest(s string) int64 {
	var n int64
	for _, b := range []byte(s) {
		n = n<<8 | int64(b)
	}
	return n
}

func one(n int) string { return string([]byte{byte(n)}) }
