// Package limb is layer 1: words with carry, and natural numbers as lists of
// words, the lowest first. See shared/doc/01-limb.md.
package limb

import (
	"math/bits"

	"tollbook/api"
)

const limbBits = 64

// Add goes in two steps: the library's Add64 takes a carry of 0 or 1 alone,
// and here it may be any number.
func Add(a, b, carry uint64) (uint64, uint64) {
	part, first := bits.Add64(a, b, 0)
	sum, second := bits.Add64(part, carry, 0)
	return sum, first + second
}

// Sub goes in two steps for the same reason as Add.
func Sub(a, b, borrow uint64) (uint64, uint64) {
	part, first := bits.Sub64(a, b, 0)
	rest, second := bits.Sub64(part, borrow, 0)
	return rest, first + second
}

// Mul answers the high limb first, then the low one.
func Mul(a, b uint64) (uint64, uint64) {
	return bits.Mul64(a, b)
}

// Div refuses what the library's Div64 would panic at.
func Div(high, low, by uint64) (uint64, uint64, api.Errno) {
	if by == 0 {
		return 0, 0, api.ErrNought
	}
	if high >= by {
		return 0, 0, api.ErrOver
	}
	quotient, rest := bits.Div64(high, low, by)
	return quotient, rest, api.OK
}

func Trim(l []uint64) []uint64 {
	return widened(l, used(l))
}

func Compare(a, b []uint64) int {
	n := used(a)
	if m := used(b); n != m {
		return sign(n > m)
	}
	for i := range n {
		// The highest limb in which they differ decides.
		top := n - 1 - i
		if a[top] != b[top] {
			return sign(a[top] > b[top])
		}
	}
	return 0
}

func Bits(l []uint64) int {
	n := used(l)
	if n == 0 {
		return 0
	}
	return limbBits*(n-1) + bits.Len64(l[n-1])
}

func Plus(a, b []uint64) []uint64 {
	n := max(used(a), used(b)) + 1
	sum := widened(a, n)
	var carry uint64
	for i := range n {
		sum[i], carry = Add(sum[i], limbAt(b, i), carry)
	}
	return cut(sum)
}

func Less(a, b []uint64) ([]uint64, api.Errno) {
	if Compare(a, b) < 0 {
		return nil, api.ErrBelow
	}
	rest := Trim(a)
	var borrow uint64
	for i := range len(rest) {
		rest[i], borrow = Sub(rest[i], limbAt(b, i), borrow)
	}
	return cut(rest), api.OK
}

func Times(l []uint64, by, more uint64) []uint64 {
	n := used(l)
	product := widened(l, n+1)
	carry := more
	for i := range n {
		high, low := Mul(product[i], by)
		sum, extra := Add(low, carry, 0)
		// Never runs over: m*m + m is below 2^64 * 2^64, m being the greatest limb.
		product[i], carry = sum, high+extra
	}
	product[n] = carry
	return cut(product)
}

func Over(l []uint64, by uint64) ([]uint64, uint64, api.Errno) {
	if by == 0 {
		return nil, 0, api.ErrNought
	}
	quotient := Trim(l)
	n := len(quotient)
	var rest uint64
	for i := range n {
		top := n - 1 - i
		// The rest stays below by, so Div has nothing to refuse.
		quotient[top], rest, _ = Div(rest, quotient[top], by)
	}
	return cut(quotient), rest, api.OK
}

func Left(l []uint64, bits int) ([]uint64, api.Errno) {
	if bits < 0 {
		return nil, api.ErrArg
	}
	size := Bits(l)
	if size == 0 {
		return nil, api.OK
	}
	// Not size+bits: that sum might run over.
	if bits > limbBits*api.MaxLimbs-size {
		return nil, api.ErrLong
	}
	places, shift := bits/limbBits, bits%limbBits
	n := used(l)
	moved := make([]uint64, places+n+1)
	copy(moved[places:], l[:n])
	shiftUp(moved[places:], shift)
	return cut(moved), api.OK
}

func Right(l []uint64, bits int) ([]uint64, api.Errno) {
	if bits < 0 {
		return nil, api.ErrArg
	}
	places, shift := bits/limbBits, bits%limbBits
	n := used(l)
	if places >= n {
		return nil, api.OK
	}
	moved := make([]uint64, n-places)
	copy(moved, l[places:n])
	shiftDown(moved, shift)
	return cut(moved), api.OK
}

// shiftUp changes l itself; what leaves its last limb is lost, so the caller
// leaves room there. A shift of a whole limb gives 0, so shift 0 needs no case
// of its own.
func shiftUp(l []uint64, shift int) {
	var carry uint64
	for i := range len(l) {
		old := l[i]
		l[i] = old<<shift | carry
		carry = old >> (limbBits - shift)
	}
}

// shiftDown changes l itself; what leaves its first limb is lost.
func shiftDown(l []uint64, shift int) {
	for i := range len(l) {
		l[i] = l[i]>>shift | limbAt(l, i+1)<<(limbBits-shift)
	}
}

// used is how many limbs are left without the noughts at the end.
func used(l []uint64) int {
	n := len(l)
	for i := range n {
		if l[n-1-i] != 0 {
			return n - i
		}
	}
	return 0
}

// cut is Trim without a copy, for lists that this package made itself.
func cut(l []uint64) []uint64 {
	return l[:used(l)]
}

// widened is a copy of l's used limbs with noughts behind them, n limbs in all.
func widened(l []uint64, n int) []uint64 {
	wide := make([]uint64, n)
	copy(wide, l[:used(l)])
	return wide
}

// limbAt lets a shorter list go on with noughts.
func limbAt(l []uint64, i int) uint64 {
	if i < len(l) {
		return l[i]
	}
	return 0
}

func sign(above bool) int {
	if above {
		return 1
	}
	return -1
}
