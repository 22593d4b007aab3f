package nat

import (
	"tollbook/limb"
)

// divided is long division, by two limbs or more, of what is not below them.
// Both are first moved up until the divisor's highest bit is a 1, which keeps
// the guesses of the quotient's limbs near. (limb.Times, as limb.Left would
// refuse what runs over MaxLimbs on the way.)
func divided(a, b []uint64) (quotient, rest []uint64) {
	n := len(b)
	shift := limbBits*n - limb.Bits(b)
	by := limb.Times(b, 1<<shift, 0)
	row := make([]uint64, len(a)+1)
	copy(row, limb.Times(a, 1<<shift, 0))
	for end := len(a); end >= n; end-- {
		// What is taken off leaves the piece's highest limb 0: the quotient's
		// limb stands there, and its row grows down as the rest becomes shorter.
		piece := row[end-n : end+1]
		piece[n] = takeOff(piece, by)
	}
	quotient = limb.Trim(row[n:])
	clear(row[n:])
	rest, _ = limb.Right(row, shift)
	return quotient, rest
}

// takeOff takes the divisor off the piece, which is a limb longer, as often as
// that goes, and answers how often.
func takeOff(piece, by []uint64) uint64 {
	n := len(by)
	times := guess(piece, by)
	var below uint64
	piece[n], below = limb.Sub(piece[n], lessTimes(piece[:n], by, times), 0)
	for below > 0 {
		times--
		var over uint64
		piece[n], over = limb.Add(piece[n], addTimes(piece[:n], by, 1), 0)
		below -= over
	}
	return times
}

// guess is how often the divisor goes into the piece, or one more: it asks the
// three highest limbs of the piece, and the two highest of the divisor.
func guess(piece, by []uint64) uint64 {
	n := len(by)
	high, next := by[n-1], by[n-2]
	var times, rest, over uint64
	if piece[n] < high {
		times, rest, _ = limb.Div(piece[n], piece[n-1], high)
	} else {
		// It is high itself, no more: the greatest limb, with high left beside the next limb.
		times = greatest
		rest, over = limb.Add(piece[n-1], high, 0)
	}
	for over == 0 && tooMuch(times, next, rest, piece[n-2]) {
		times--
		rest, over = limb.Add(rest, high, 0)
	}
	return times
}

// tooMuch: whether times * next is above the two limbs high and low.
func tooMuch(times, next, high, low uint64) bool {
	top, bottom := limb.Mul(times, next)
	return top > high || top == high && bottom > low
}

// lessTimes takes l times by off the row, which is as long as l, and answers
// what is borrowed from beyond it.
func lessTimes(row, l []uint64, by uint64) uint64 {
	var carry uint64
	for i, x := range l {
		high, low := limb.Mul(x, by)
		rest, extra := limb.Sub(row[i], low, carry)
		row[i], carry = rest, high+extra
	}
	return carry
}
