package reals

import "math"

// A float's bits are, from the lowest on, those of its digits below the highest
// one, those that tell its power, and its sign.
const (
	digitBits = 52
	powerBits = 11
	// highDigit is ahead of the digits of every normal float, and does not stand
	// among its bits.
	highDigit = 1 << digitBits
	signBit   = 1 << (digitBits + powerBits)
	// noPower tells that a float is an infinity or NaN.
	noPower = 1<<powerBits - 1
	// leastPower is that of least, and of all floats that are not normal.
	leastPower = -1074
	// highestTwo is the power of the greatest power of two that is a float.
	highestTwo = 1023
)

// parts are those of a finite float: digits times 2 to the power.
type parts struct {
	below  bool
	digits uint64
	power  int
}

// apart tells of floats that are not finite that they have no parts.
func apart(x float64) (parts, bool) {
	bits := math.Float64bits(x)
	below, digits := bits&signBit != 0, bits&(highDigit-1)
	power := int(bits >> digitBits & noPower)
	switch power {
	case noPower:
		return parts{}, false
	case 0:
		return parts{below, digits, leastPower}, true
	}
	// The least normal floats lie as far apart as those that are not normal.
	return parts{below, digits | highDigit, leastPower + power - 1}, true
}

// together is exact: there is a float that is just that, as the digits are those
// of parts.
func together(digits uint64, power int) float64 {
	return math.Ldexp(float64(digits), power)
}

func isOdd(x float64) bool {
	return math.Float64bits(x)&1 != 0
}

// signed is for floats that are not below 0.
func signed(x float64, below bool) float64 {
	if below {
		return math.Float64frombits(math.Float64bits(x) | signBit)
	}
	return x
}

// outward is the next float farther from 0, on x's side: behind Max an
// infinity. The bits of floats of one sign count as the floats lie.
func outward(x float64) float64 {
	return math.Float64frombits(math.Float64bits(x) + 1)
}

// inward is the next float nearer to 0, which keeps x's sign; x is not 0.
func inward(x float64) float64 {
	return math.Float64frombits(math.Float64bits(x) - 1)
}
