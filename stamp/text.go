package stamp

import (
	"strconv"
	"strings"

	"estuary/api"
)

const dot = "."

// TextBranch is a branch's text.
func TextBranch(b api.Branch) (string, api.Errno) { return told(b, Branch, branchText) }

// TextName is a name's text.
func TextName(n api.Name) (string, api.Errno) { return told(n, Name, nameText) }

// Text is a stamp's text.
func Text(s api.Stamp) (string, api.Errno) { return told(s, Stamp, stampText) }

func branchText(b api.Branch) string { return strconv.Itoa(b.Repo) + dot + b.Label }

func nameText(n api.Name) string { return branchText(n.Branch) + dot + decimal(n.Number) }

func stampText(s api.Stamp) string {
	return decimal(s.Gen) + dot + nameText(s.Name) + dot + strconv.Itoa(s.Index)
}

func decimal(n int64) string { return strconv.FormatInt(n, 10) }

// ParseBranch is the branch of a text.
func ParseBranch(s string) (api.Branch, api.Errno) {
	repo, label, _ := strings.Cut(s, dot)
	return meant(api.Branch{Repo: int(guess(repo)), Label: label}, s, TextBranch)
}

// ParseName is the name of a text.
func ParseName(s string) (api.Name, api.Errno) {
	front, number := cutLast(s)
	branch, _ := ParseBranch(front) // a zero one, if there is none, may be in no name
	return meant(api.Name{Branch: branch, Number: guess(number)}, s, TextName)
}

// Parse is the stamp of a text.
func Parse(s string) (api.Stamp, api.Errno) {
	gen, rest, _ := strings.Cut(s, dot)
	middle, index := cutLast(rest)
	name, _ := ParseName(middle) // a zero one, if there is none, may be in no stamp
	return meant(api.Stamp{Gen: guess(gen), Name: name, Index: int(guess(index))}, s, Text)
}

// cutLast is what is ahead of the last dot, and what is behind it.
func cutLast(s string) (string, string) {
	at := max(0, strings.LastIndex(s, dot))
	return s[:at], strings.TrimPrefix(s[at:], dot)
}

// guess is the number that s may be the text of; whether it is, is told by the whole text that is made of it.
func guess(s string) int64 {
	n, _ := strconv.ParseInt(s, 10, 64)
	return n
}
