package reals

import (
	"math"

	"tollbook/nat"
	"tollbook/rat"
)

// past is how far on the way from one float to the next a number lies.
type past int

const (
	justThere past = iota
	underMiddle
	inMiddle
	overMiddle
)

// place is where a number not below 0 lies: low is the greatest finite float
// that is not above it.
type place struct {
	low  float64
	past past
}

// high is the least float that is not below the number.
func (p place) high() float64 {
	if p.past == justThere {
		return p.low
	}
	return outward(p.low)
}

// placeOf is that of r's distance from 0.
//
// Where floats lie 2 to a power apart, low is as many times that as it goes
// into the distance. What is moved by that power, which is less than 2^11 up or
// down, stays far from too long for nat.
func placeOf(r rat.Rat) place {
	num, den := r.Num().Abs(), r.Den()
	two := twoIn(num, den)
	if two > highestTwo {
		// All of these lie behind the middle between Max and 2^1024.
		return place{math.MaxFloat64, overMiddle}
	}
	power := max(two-digitBits, leastPower)
	num, _ = nat.Left(num, max(-power, 0))
	den, _ = nat.Left(den, max(power, 0))
	times, rest, _ := nat.DivMod(num, den)
	digits, _ := times.Uint64()
	return place{together(digits, power), pastOf(rest, den)}
}

// twoIn is the power of the greatest power of two that is not above num over
// den; below 0, if num is 0.
func twoIn(num, den nat.Nat) int {
	two := num.Bits() - den.Bits()
	num, _ = nat.Left(num, max(-two, 0))
	den, _ = nat.Left(den, max(two, 0))
	if nat.Compare(num, den) < 0 {
		return two - 1
	}
	return two
}

// pastOf is how much of den the rest is; it is below den.
func pastOf(rest, den nat.Nat) past {
	if rest.IsZero() {
		return justThere
	}
	twice, _ := nat.Left(rest, 1)
	switch nat.Compare(twice, den) {
	case -1:
		return underMiddle
	case 0:
		return inMiddle
	}
	return overMiddle
}
