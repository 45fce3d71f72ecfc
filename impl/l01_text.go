package impl

import (
	"strconv"
	"strings"
)

const (
	maxNameBytes  = 8
	maxPlainBytes = 12
	maxParsed     = 99999
)

func NameOk(s string) bool {
	return s != "" && len(s) <= maxNameBytes && allRunes(s, smallLetter)
}

func PlainOk(s string) bool {
	return len(s) <= maxPlainBytes && allRunes(s, plainRune)
}

// Runes serve as bytes here: a byte above 127 is part of a greater rune, or, where
// it is of none, read as utf8.RuneError, and neither is a letter or a plain byte.
func allRunes(s string, ok func(r rune) bool) bool {
	for _, r := range s {
		if !ok(r) {
			return false
		}
	}
	return true
}

func smallLetter(r rune) bool {
	return 'a' <= r && r <= 'z'
}

func plainRune(r rune) bool {
	return ' ' <= r && r <= '~' && r != '"' && r != '\\'
}

func digit(r rune) bool {
	return '0' <= r && r <= '9'
}

func NumText(n int) string {
	if n < 0 {
		// The least int has no opposite that is an int, but one without a sign.
		return put("-", strconv.FormatUint(-uint64(n), 10))
	}
	return strconv.FormatUint(uint64(n), 10)
}

func put(parts ...string) string {
	return strings.Join(parts, "")
}

func ParseNum(s string) (int, bool) {
	n := 0
	for i, r := range s {
		// Only noughts leave n at 0, so what follows them made them needless.
		if !digit(r) || i > 0 && n == 0 {
			return 0, false
		}
		n = 10*n + int(r-'0')
		// Asked at each digit, so that a long text cannot wrap n round.
		if n > maxParsed {
			return 0, false
		}
	}
	return n, s != ""
}

func Less(a string, b string) bool {
	return a < b
}

func InOrder(l []string) bool {
	for i := 1; i < len(l); i++ {
		// Neighbours are enough: what is Less than a lesser one is Less, too.
		if !Less(l[i-1], l[i]) {
			return false
		}
	}
	return true
}

func Least(a int, b int) int {
	if b < a {
		return b
	}
	return a
}

func Most(a int, b int) int {
	if b > a {
		return b
	}
	return a
}
