package rat

import (
	"slices"

	"tollbook/nat"
	"tollbook/whole"
)

func Between(a, b Rat) Rat {
	if Compare(a, b) > 0 {
		a, b = b, a
	}
	switch {
	case a.Sign() > 0:
		return simplest(a, b)
	case b.Sign() < 0:
		return simplest(b.Neg(), a.Neg()).Neg()
	}
	return Rat{}
}

// simplest is Between of two numbers above 0, low not above high. As long as
// no whole number lies from one to the other, the one below both is taken off,
// and what is left is turned upside down: what is simplest there is simplest
// here, put together again. No part of it is above those of low and of high, so
// nothing on the way is long.
func simplest(low, high Rat) Rat {
	l, h := part{low.num.Abs(), low.Den()}, part{high.num.Abs(), high.Den()}
	var taken []piece
	for {
		next, ok := foreseen(l, h)
		if !ok {
			number, lies := wholeFrom(l, h)
			if lies {
				return together(taken, number)
			}
			next = piece{number, nat.Small(1), nat.Small(1), nat.Small(0), true}
		}
		taken = append(taken, next)
		l, h = next.off(l), next.off(h)
		if next.turned {
			l, h = h, l
		}
	}
}

// together puts all pieces to the whole number that was found, the last one
// first.
func together(taken []piece, found nat.Nat) Rat {
	num, den := found, nat.Small(1)
	again := func(p piece) {
		num, den = added(p.a, num, p.b, den), added(p.c, num, p.d, den)
	}
	for _, p := range slices.Backward(taken) {
		again(p)
	}
	return Rat{above(num), den}
}

// part is what is left of a number: num over den, in lowest terms.
type part struct {
	num, den nat.Nat
}

// piece is what was taken off a number: where x is left, a*x + b over c*x + d
// was there. a*d and b*c are one apart, so that it comes off without a rest.
// Turned: of two numbers the greater one was left the lesser one.
type piece struct {
	a, b, c, d nat.Nat
	turned     bool
}

func (p piece) off(from part) part {
	return part{apart(p.d, from.num, p.b, from.den), apart(p.a, from.den, p.c, from.num)}
}

// wholeFrom is the least whole number from l on, if h is not below it; else the
// greatest one that is below both.
func wholeFrom(l, h part) (nat.Nat, bool) {
	floor, rest, _ := nat.DivMod(l.num, l.den)
	other, _, _ := nat.DivMod(h.num, h.den)
	if rest.IsZero() || nat.Compare(floor, other) == 0 {
		return floor, rest.IsZero()
	}
	next, _ := nat.Add(floor, nat.Small(1))
	return next, true
}

// foreseen is a piece that the highest bits of l and h tell, and whether there
// is one: many whole numbers are taken off there at small cost. It asks a
// number below l and one above h: as long as both have one floor, l and h lie
// strictly between that and the next whole number. Nothing runs over: what is
// left of the first number is always s over t with its num a*s + b*t and its
// den c*s + d*t, s being above 0.
func foreseen(l, h part) (piece, bool) {
	low, high := l.highest(0, 1), h.highest(1, 0)
	var a, b, c, d uint64 = 1, 0, 0, 1
	turned := false
	for high.den > 0 && low.num/low.den == high.num/high.den {
		floor := low.num / low.den
		a, b, c, d = a*floor+b, a, c*floor+d, c
		low, high = short{high.den, high.num % high.den}, short{low.den, low.num % low.den}
		turned = !turned
	}
	return piece{nat.Small(a), nat.Small(b), nat.Small(c), nat.Small(d), turned}, c > 0
}

// short is a number near to a part.
type short struct {
	num, den uint64
}

// highest has one bit fewer than a limb, so that there is room for what is put
// to num and den.
func (p part) highest(toNum, toDen uint64) short {
	drop := max(p.num.Bits(), p.den.Bits(), limbBits-1) - (limbBits - 1)
	num, _ := nat.Right(p.num, drop)
	den, _ := nat.Right(p.den, drop)
	topNum, _ := num.Uint64()
	topDen, _ := den.Uint64()
	return short{topNum + toNum, topDen + toDen}
}

// added is x times p and y times q together.
func added(x, p, y, q nat.Nat) nat.Nat {
	sum, _ := whole.Add(times(above(p), x), times(above(q), y))
	return sum.Abs()
}

// apart is how far x times p and y times q lie from each other.
func apart(x, p, y, q nat.Nat) nat.Nat {
	rest, _ := whole.Sub(times(above(p), x), times(above(q), y))
	return rest.Abs()
}
