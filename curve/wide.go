package curve

import (
	"tollbook/api"
	"tollbook/nat"
	"tollbook/rat"
	"tollbook/whole"
)

const limbBits = 64

// wide is a rational number in lowest terms that may be too long for rat: what comes up
// on the way may be so, where what comes out is not.
//
// The longest of it is the sum of a kink's value and of what another curve, of which no
// kink is there, comes to: five numbers of api.MaxCurve limbs multiplied, and a bit. That
// has no more limbs than nat takes, so none of its calls, nor of whole's, can fail here.
type wide struct {
	num whole.Int
	den nat.Nat
}

func wideOf(r rat.Rat) wide {
	return wide{r.Num(), r.Den()}
}

// plus brings the sum down by what both denominators have in common alone: nothing else
// of them can divide it.
func (a wide) plus(b wide) wide {
	common := nat.Gcd(a.den, b.den)
	more := less(b.den, common)
	sum, _ := whole.Add(longer(a.num, more), longer(b.num, less(a.den, common)))
	den, _ := nat.Mul(a.den, more)
	rest := nat.Gcd(sum.Abs(), common)
	return wide{shorter(sum, rest), less(den, rest)}
}

func (a wide) minus(b wide) wide {
	return a.plus(wide{b.num.Neg(), b.den})
}

// times brings each numerator down with the other one's denominator ahead of
// multiplying: nothing is left then that divides both products.
func (a wide) times(b wide) wide {
	first, second := nat.Gcd(a.num.Abs(), b.den), nat.Gcd(b.num.Abs(), a.den)
	num, _ := whole.Mul(shorter(a.num, first), shorter(b.num, second))
	den, _ := nat.Mul(less(a.den, second), less(b.den, first))
	return wide{num, den}
}

// over is for what is above 0.
func (a wide) over(b wide) wide {
	return a.times(wide{whole.New(false, b.den), b.num.Abs()})
}

// within is the number for rat; api.ErrLong, if it has more than so many limbs.
func (a wide) within(limbs int) (rat.Rat, api.Errno) {
	if max(a.num.Abs().Bits(), a.den.Bits()) > limbs*limbBits {
		return rat.Rat{}, api.ErrLong
	}
	return rat.New(a.num, whole.New(false, a.den))
}

func longer(i whole.Int, by nat.Nat) whole.Int {
	product, _ := whole.Mul(i, whole.New(false, by))
	return product
}

// shorter is for what divides i.
func shorter(i whole.Int, by nat.Nat) whole.Int {
	return whole.New(i.Sign() < 0, less(i.Abs(), by))
}

// less is for what divides n, which a 1 often is.
func less(n, by nat.Nat) nat.Nat {
	if by.Bits() == 1 {
		return n
	}
	quotient, _, _ := nat.DivMod(n, by)
	return quotient
}
