package nat

import (
	"tollbook/limb"
)

// Gcd is Euclid's way; as long as the lesser number has more than one limb,
// many of his steps are made at a time.
func Gcd(a, b Nat) Nat {
	if Compare(a, b) < 0 {
		a, b = b, a
	}
	for len(b.limbs) > 1 {
		a, b = later(a, b)
	}
	by, _ := b.Uint64()
	if by == 0 {
		return a
	}
	_, rest, _ := limb.Over(a.limbs, by)
	for rest > 0 {
		by, rest = rest, by%rest
	}
	return Small(by)
}

// later answers two neighbours that come later than a and b in Euclid's row.
// It is Lehmer's way: the highest 64 bits tell most of the next quotients, and
// all the steps that they tell are made on the long numbers at once.
func later(a, b Nat) (Nat, Nat) {
	drop := a.Bits() - limbBits
	one, two := foreseen(highest(a, drop), highest(b, drop))
	if one.ofB == 0 {
		_, rest, _ := DivMod(a, b)
		return b, rest
	}
	return one.from(a, b), two.from(a, b)
}

func highest(a Nat, drop int) uint64 {
	top, _ := Right(a, drop)
	x, _ := top.Uint64()
	return x
}

// member is a number of Euclid's row, told by the two that it begins with:
// ofA times a less ofB times b, or the other way round, if it is odd.
type member struct {
	ofA, ofB uint64
	odd      bool
}

// next is the member behind m and n: n taken off m so many times. Neighbours
// lie on unlike sides, so the parts of a and b add up.
func (m member) next(n member, times uint64) member {
	return member{m.ofA + times*n.ofA, m.ofB + times*n.ofB, m.odd}
}

func (m member) from(a, b Nat) Nat {
	if m.odd {
		return apart(b.limbs, a.limbs, m.ofB, m.ofA)
	}
	return apart(a.limbs, b.limbs, m.ofA, m.ofB)
}

// apart is x times p less y times q; the caller knows that this is a number,
// and none above x and y.
func apart(x, y []uint64, p, q uint64) Nat {
	row := make([]uint64, max(len(x), len(y))+1)
	row[len(x)] = addTimes(row[:len(x)], x, p)
	carry := lessTimes(row[:len(y)], y, q)
	for i := len(y); carry > 0; i++ {
		row[i], carry = limb.Sub(row[i], carry, 0)
	}
	rest, _ := made(row)
	return rest
}

// foreseen goes Euclid's way with the highest bits alone, as long as what was
// cut off below them can't change a quotient (Collins' condition), and answers
// the last two members that are sure. Where none behind a and b is, the first
// one has nothing of b.
func foreseen(x, y uint64) (member, member) {
	var one member
	two, three := member{ofA: 1}, member{ofB: 1, odd: true}
	for y >= three.ofB && x-y >= two.ofB+three.ofB {
		times := x / y
		x, y = y, x%y
		one, two, three = two, three, two.next(three, times)
	}
	return one, two
}
