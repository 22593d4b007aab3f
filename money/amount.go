package money

import (
	"math"
	"strings"

	"tollbook/api"
	"tollbook/nat"
	"tollbook/numeral"
	"tollbook/whole"
)

const (
	base   = 10
	minus  = "-"
	point  = "."
	blank  = " "
	nought = "0"
)

// piece is a piece of an amount. What is told and what is read are kept side by
// side, so that one list says what an amount is.
type piece struct {
	tell func(a amount) string
	// read goes on behind the piece and tells true; where the text is no longer
	// the beginning of an amount, it stays at that byte and tells false.
	read func(r *reader) bool
}

// amount has those pieces that hang on the units.
type amount struct {
	sign, ahead, behind string
}

func pieces(c api.Currency) []piece {
	fixed := func(text string) piece {
		return piece{
			tell: func(amount) string { return text },
			read: func(r *reader) bool { return r.fixed(text) },
		}
	}
	pointed := ""
	if c.Digits > 0 {
		pointed = point
	}
	return []piece{
		{func(a amount) string { return a.sign }, readSign},
		{func(a amount) string { return a.ahead }, readAhead},
		fixed(pointed),
		{func(a amount) string { return a.behind }, readBehind},
		fixed(blank),
		fixed(c.Name),
	}
}

func Text(c api.Currency, units int64) (string, api.Errno) {
	if err := Check(c); err != api.OK {
		return "", err
	}
	a := amountOf(c, units)
	var text strings.Builder
	for _, p := range pieces(c) {
		text.WriteString(p.tell(a))
	}
	return text.String(), api.OK
}

func Parse(c api.Currency, s string) (int64, int, api.Errno) {
	if err := Check(c); err != api.OK {
		return 0, 0, err
	}
	r := reader{text: s, digits: c.Digits}
	for _, p := range pieces(c) {
		if !p.read(&r) {
			return 0, r.at, api.ErrAmount
		}
	}
	if r.at < len(s) {
		return 0, r.at, api.ErrAmount
	}
	units, err := Narrow(whole.New(r.below, nat.Small(r.far)))
	return units, 0, err
}

func amountOf(c api.Currency, units int64) amount {
	digits, _ := numeral.Text(whole.Small(units).Abs(), base)
	// One digit at least stands ahead of the point.
	digits = strings.Repeat(nought, max(0, c.Digits+1-len(digits))) + digits
	end := len(digits) - c.Digits
	a := amount{ahead: digits[:end], behind: digits[end:]}
	if units < 0 {
		a.sign = minus
	}
	return a
}

// reader is at the first byte of a text that is not read; all ahead of it is
// the beginning of an amount.
type reader struct {
	text string
	at   int
	// digits is how many stand behind the point.
	digits int
	// below and far are what was read: the sign, and what the digits say.
	below bool
	far   uint64
}

func readSign(r *reader) bool {
	r.below = r.fixed(minus)
	return true
}

func readAhead(r *reader) bool {
	first := r.digit(r.digits)
	// A nought at the beginning stands alone.
	for more := first; more && r.far > 0; {
		more = r.digit(r.digits)
	}
	return first
}

func readBehind(r *reader) bool {
	for rest := r.digits - 1; rest >= 0; rest-- {
		if !r.digit(rest) {
			return false
		}
	}
	return true
}

func (r *reader) fixed(text string) bool {
	for i := range len(text) {
		if r.at == len(r.text) || r.text[r.at] != text[i] {
			return false
		}
		r.at++
	}
	return true
}

// digit reads one digit behind which at least rest more must come; true, if it
// was one with which the text is still the beginning of an amount.
func (r *reader) digit(rest int) bool {
	if r.at == len(r.text) || r.text[r.at] < '0' || '9' < r.text[r.at] {
		return false
	}
	digit := uint64(r.text[r.at] - '0')
	// Noughts for the rest keep it nearest to 0: what is beyond 64 bits with
	// them is so with all others.
	most := r.farthest() / uint64(tens[rest])
	if r.far > (most-digit)/base {
		return false
	}
	far := r.far*base + digit
	// 0 has no sign; only digits to come can still make it another number.
	if r.below && far == 0 && rest == 0 {
		return false
	}
	r.far, r.at = far, r.at+1
	return true
}

// farthest is how far from 0 an amount may lie on its side.
func (r *reader) farthest() uint64 {
	if r.below {
		return math.MaxInt64 + 1
	}
	return math.MaxInt64
}
