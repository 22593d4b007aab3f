package tokens

import (
	"tollbook/api"
)

func Word(s string) bool {
	if s == "" || len(s) > api.MaxName || partLength(s) < len(s) {
		return false
	}
	_, isKept := keptWords()[s]
	return !isKept
}

func Code(s string) bool {
	return len(s) == codeLength && run(s, isCapital) == codeLength
}

// keptWords have a meaning of their own in a rule book, so nothing is named so.
func keptWords() map[string]struct{} {
	return map[string]struct{}{
		"currency": {}, "place": {}, "tax": {}, "rate": {}, "exempt": {}, "least": {},
		"in": {}, "money": {}, "round": {}, "line": {}, "invoice": {}, "on": {}, "instead": {},
		"for": {}, "from": {}, "to": {}, "when": {}, "or": {}, "and": {}, "not": {},
		"buyer": {}, "amount": {}, "quantity": {}, "above": {},
		"floor": {}, "ceil": {}, "up": {}, "down": {}, "even": {},
	}
}
