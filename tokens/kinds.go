package tokens

import (
	"tollbook/api"
)

const (
	codeLength = 3
	dateForm   = "dddd-dd-dd"
	anyDigit   = 'd'
)

// longest is the longest token with which s, which is not empty, begins; of
// length 0, if none does. The first byte leaves one kind, but for a digit: there
// a date is longer than the number with which it begins.
func longest(s string) (api.TokenKind, int) {
	switch {
	case isSmall(s[0]):
		return api.TokWord, wordLength(s)
	case Code(s[:min(codeLength, len(s))]):
		return api.TokCode, codeLength
	case beginsDate(s):
		return api.TokDate, len(dateForm)
	case isDigit(s[0]):
		return api.TokNumber, numberLength(s)
	}
	return api.TokMark, markLength(s)
}

// wordLength is for an s that begins with a part.
func wordLength(s string) int {
	length := partLength(s)
	for length < len(s) && s[length] == point {
		further := partLength(s[length+1:])
		if further == 0 {
			break
		}
		length += 1 + further
	}
	return length
}

// partLength is that of the part with which s begins, 0 if it begins with none.
func partLength(s string) int {
	if s == "" || !isSmall(s[0]) {
		return 0
	}
	return run(s, isInPart)
}

// numberLength is for an s that begins with a digit.
func numberLength(s string) int {
	length := run(s, isDigit)
	if length == len(s) || s[length] != point {
		return length
	}
	further := run(s[length+1:], isDigit)
	if further == 0 {
		return length
	}
	return length + 1 + further
}

func beginsDate(s string) bool {
	if len(s) < len(dateForm) {
		return false
	}
	for i := range len(dateForm) {
		if dateForm[i] == anyDigit && !isDigit(s[i]) || dateForm[i] != anyDigit && s[i] != dateForm[i] {
			return false
		}
	}
	return true
}

// markLength is that of the mark with which s, which is not empty, begins, 0 if
// it begins with none.
func markLength(s string) int {
	switch s[0] {
	case '<', '>':
		if len(s) > 1 && s[1] == '=' {
			return 2
		}
		return 1
	case ';', ',', '(', ')', '%':
		return 1
	}
	return 0
}

// run is how many bytes at the beginning of s are of a kind.
func run(s string, is func(c byte) bool) int {
	n := 0
	for n < len(s) && is(s[n]) {
		n++
	}
	return n
}

func isSmall(c byte) bool   { return 'a' <= c && c <= 'z' }
func isCapital(c byte) bool { return 'A' <= c && c <= 'Z' }
func isDigit(c byte) bool   { return '0' <= c && c <= '9' }
func isInPart(c byte) bool  { return isSmall(c) || isDigit(c) || c == joint }
