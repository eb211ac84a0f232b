// Package semver is layer 1: see shared/doc/01-semver.md.
package semver

import (
	"cmp"
	"iter"
	"strconv"
	"strings"

	"slipway/api"
)

// Version is a version.
type Version struct {
	Major, Minor, Patch int
	Pre                 string
}

const (
	maxMarks      = 4
	maxMarkBytes  = 10
	maxMarkDigits = 6
)

// Parse reads a version.
func Parse(s string) (Version, api.Errno) {
	core, pre, dashed := strings.Cut(s, "-")
	if dashed && !rightPre(pre) {
		return Version{}, api.ErrSyntax
	}
	first, rest, _ := strings.Cut(core, ".")
	second, third, _ := strings.Cut(rest, ".")
	major, majorOK := number(first)
	minor, minorOK := number(second)
	patch, patchOK := number(third)
	if !majorOK || !minorOK || !patchOK {
		return Version{}, api.ErrSyntax
	}
	return Version{Major: major, Minor: minor, Patch: patch, Pre: pre}, api.OK
}

// number reads one of a version's three numbers.
func number(s string) (int, bool) {
	if !allDigits(s) || !plainNumber(s) {
		return 0, false
	}
	n, err := strconv.Atoi(s)
	return n, err == nil && n <= api.MaxNumber
}

// plainNumber tells whether digits have no nought ahead of others, and aren't too many.
func plainNumber(digits string) bool {
	return len(digits) <= maxMarkDigits && (digits == "0" || digits[0] != '0')
}

// allDigits tells whether a text is of digits alone, one at least.
func allDigits(s string) bool {
	for i := range len(s) {
		if s[i] < '0' || s[i] > '9' {
			return false
		}
	}
	return s != ""
}

// marks goes through what stands between the points of a Pre.
func marks(pre string) iter.Seq[string] {
	return func(yield func(string) bool) {
		rest, more := pre, true
		for more {
			var mark string
			mark, rest, more = strings.Cut(rest, ".")
			if !yield(mark) {
				return
			}
		}
	}
}

// rightPre tells whether a Pre that isn't left out may be so.
func rightPre(pre string) bool {
	count := 0
	for mark := range marks(pre) {
		count++
		if count > maxMarks || !rightMark(mark) {
			return false
		}
	}
	return true
}

func rightMark(mark string) bool {
	if mark == "" || len(mark) > maxMarkBytes {
		return false
	}
	if allDigits(mark) {
		return plainNumber(mark)
	}
	for i := range len(mark) {
		digit := mark[i] >= '0' && mark[i] <= '9'
		letter := mark[i] >= 'a' && mark[i] <= 'z'
		if !digit && !letter {
			return false
		}
	}
	return true
}

// Right tells whether it is a version.
func (v Version) Right() bool {
	return rightNumber(v.Major) && rightNumber(v.Minor) && rightNumber(v.Patch) && (v.Pre == "" || rightPre(v.Pre))
}

func rightNumber(n int) bool {
	return n >= 0 && n <= api.MaxNumber
}

// Text is the version's text.
func (v Version) Text() (string, api.Errno) {
	if !v.Right() {
		return "", api.ErrForm
	}
	s := strconv.Itoa(v.Major) + "." + strconv.Itoa(v.Minor) + "." + strconv.Itoa(v.Patch)
	if v.Pre != "" {
		s += "-" + v.Pre
	}
	return s, api.OK
}

// Compare tells which version is the greater.
func Compare(a Version, b Version) int {
	return cmp.Or(
		cmp.Compare(a.Major, b.Major),
		cmp.Compare(a.Minor, b.Minor),
		cmp.Compare(a.Patch, b.Patch),
		comparePres(a.Pre, b.Pre),
	)
}

func comparePres(a string, b string) int {
	switch {
	case a == b:
		return 0
	case a == "":
		return 1
	case b == "":
		return -1
	}
	rest, more := b, true
	for mark := range marks(a) {
		if !more {
			return 1
		}
		var other string
		other, rest, more = strings.Cut(rest, ".")
		if c := compareMarks(mark, other); c != 0 {
			return c
		}
	}
	return -1
}

func compareMarks(a string, b string) int {
	aDigits, bDigits := allDigits(a), allDigits(b)
	switch {
	case aDigits && bDigits:
		// No nought stands ahead of others, so more digits are a greater number.
		return cmp.Or(cmp.Compare(len(a), len(b)), strings.Compare(a, b))
	case aDigits:
		return -1
	case bDigits:
		return 1
	}
	return strings.Compare(a, b)
}

// Bump is the next version.
func (v Version) Bump(part int) (Version, api.Errno) {
	if !v.Right() || part < 0 || part > 2 {
		return Version{}, api.ErrForm
	}
	next := v.above(part)
	if !next.Right() {
		return Version{}, api.ErrBig
	}
	return next, api.OK
}

// above is the version that Bump answers; a number of it may be too big.
func (v Version) above(part int) Version {
	switch part {
	case 0:
		return Version{Major: v.Major + 1}
	case 1:
		return Version{Major: v.Major, Minor: v.Minor + 1}
	}
	if v.Pre != "" {
		return Version{Major: v.Major, Minor: v.Minor, Patch: v.Patch}
	}
	return Version{Major: v.Major, Minor: v.Minor, Patch: v.Patch + 1}
}
