package curve_test

import (
	"math/big"
	"testing"

	"tollbook/api"
	"tollbook/curve"
)

// What follows makes curves of long numbers out of those that Line and Of take.

// factors are those of a number of so many limbs: each is odd, and short enough for
// Line.
func (d *dice) factors(limbs int) []*big.Rat {
	var list []*big.Rat
	for n := 0; n < limbs; n += mostFigure {
		list = append(list, d.odd(mostFigure))
	}
	return list
}

// powers are factors of a number of so many limbs that only one prime divides.
func powers(prime int64, limbs int) []*big.Rat {
	most, one := q("1"), big.NewRat(prime, 1)
	for next := one; long(next) <= mostFigure; next = times(next, one) {
		most = next
	}
	list := []*big.Rat{most}
	for all := most; long(all) < limbs; all = times(all, most) {
		list = append(list, most)
	}
	return list
}

func product(list []*big.Rat) *big.Rat {
	p := q("1")
	for _, r := range list {
		p = times(p, r)
	}
	return p
}

// quick joins curves without asking what comes of it.
func quick(t *testing.T, join func(a, b *curve.Curve) (*curve.Curve, api.Errno), a, b *curve.Curve) *curve.Curve {
	t.Helper()
	c, e := join(a, b)
	if e != api.OK {
		t.Fatalf("error %d", e)
	}
	return c
}

// multiplied is Line of a product after c.
func multiplied(t *testing.T, c *curve.Curve, by []*big.Rat) *curve.Curve {
	t.Helper()
	for _, r := range by {
		c = quick(t, curve.After, line(t, r).made, c)
	}
	return c
}

// divided is Line of one over a product after c.
func divided(t *testing.T, c *curve.Curve, by []*big.Rat) *curve.Curve {
	t.Helper()
	for _, r := range by {
		c = quick(t, curve.After, line(t, over(q("1"), r)).made, c)
	}
	return c
}

// chunks are a whole number's digits of 128 bits, the highest first.
func chunks(n *big.Rat) []*big.Rat {
	var list []*big.Rat
	rest, low := new(big.Int).Set(n.Num()), new(big.Int).Sub(two(128, 0).Num(), big.NewInt(1))
	for ; rest.Sign() > 0; rest.Rsh(rest, 128) {
		list = append([]*big.Rat{new(big.Rat).SetInt(new(big.Int).And(rest, low))}, list...)
	}
	return list
}

// wholeLine is the line whose slope is any whole number.
func wholeLine(t *testing.T, n *big.Rat) *curve.Curve {
	t.Helper()
	c := line(t, q("0")).made
	for _, digit := range chunks(n) {
		c = quick(t, curve.Add, quick(t, curve.After, line(t, two(128, 0)).made, c), line(t, digit).made)
	}
	return c
}

// hinge is flat up to any whole number n, and rises by 1 from there on.
func hinge(t *testing.T, n *big.Rat) *curve.Curve {
	t.Helper()
	c := line(t, q("1")).made
	for _, digit := range chunks(n) {
		c = quick(t, curve.After, c, line(t, over(q("1"), two(128, 0))).made)
		c = quick(t, curve.After, line(t, two(128, 0)).made, c)
		if digit.Sign() > 0 {
			c = quick(t, curve.After, c, of(t, "0", "0", digit.RatString(), "1").made)
		}
	}
	return c
}

// hingeOver is flat up to num over den, and rises by den from there on.
func hingeOver(t *testing.T, num, den *big.Rat) both {
	t.Helper()
	c := quick(t, curve.After, hinge(t, num), wholeLine(t, den))
	return took(t, c, api.OK, plain{{q("0"), q("0"), q("0")}, {over(num, den), q("0"), den}})
}

// neighbours are two fractions that differ by 1 over the product of their denominators,
// which is too long for rat; the denominators are products of short numbers.
type neighbours struct {
	low, high         *big.Rat
	lowDens, highDens []*big.Rat
	lowDen, highDen   *big.Rat
	lowNum, highNum   *big.Rat
}

func someNeighbours(t *testing.T) neighbours {
	t.Helper()
	n := neighbours{lowDens: powers(3, 540), highDens: powers(5, 540)}
	n.lowDen, n.highDen = product(n.lowDens), product(n.highDens)
	inverse := new(big.Int).ModInverse(n.highDen.Num(), n.lowDen.Num())
	n.lowNum = new(big.Rat).SetInt(inverse.Sub(n.lowDen.Num(), inverse))
	n.highNum = over(plus(times(n.lowNum, n.highDen), q("1")), n.lowDen)
	n.low, n.high = over(n.lowNum, n.lowDen), over(n.highNum, n.highDen)
	far := minus(n.high, n.low)
	if !n.highNum.IsInt() || far.Num().Cmp(big.NewInt(1)) != 0 || long(far) <= mostRatio || long(n.low) > mostLimbs || long(n.high) > mostLimbs {
		t.Fatalf("%d, %d, %d limbs", long(far), long(n.low), long(n.high))
	}
	return n
}

// P21.3: how far x lies behind the kink is too long for rat, what the curve is there is
// not.
func TestAtByLongWay(t *testing.T) {
	t.Parallel()
	n := someNeighbours(t)
	c := hingeOver(t, n.lowNum, n.lowDen)
	c.wantAt(t, n.high)
	y, e := c.made.At(number(t, n.high))
	if e != api.OK {
		t.Fatalf("error %d", e)
	}
	wantNumber(t, y, over(q("1"), n.highDen), "At")
}

// steep comes to low at 1, and rises but by 1 over its denominator from there on.
func (n neighbours) steep(t *testing.T) both {
	t.Helper()
	c := quick(t, curve.After, wholeLine(t, minus(n.lowNum, q("1"))), of(t, "0", "1", "1", "0").made)
	c = divided(t, quick(t, curve.Add, c, line(t, q("1")).made), n.lowDens)
	return took(t, c, api.OK, plain{{q("0"), q("0"), n.low}, {q("1"), n.low, over(q("1"), n.lowDen)}})
}

// P21.3: how far y lies above the kink's value is too long for rat, where the curve
// comes to it is not.
func TestSolveByLongWay(t *testing.T) {
	t.Parallel()
	n := someNeighbours(t)
	b := n.steep(t)
	b.wantSolve(t, n.high)
	x, e := b.made.Solve(number(t, n.high))
	if e != api.OK {
		t.Fatalf("error %d", e)
	}
	wantNumber(t, x, plus(q("1"), over(q("1"), n.highDen)), "Solve")
}

// P21.2: in a sum the same comes up at a kink of the other curve.
func TestAddByLongWay(t *testing.T) {
	t.Parallel()
	n := someNeighbours(t)
	a, b := hingeOver(t, n.lowNum, n.lowDen), hingeOver(t, n.highNum, n.highDen)
	sum := add(t, a, b)
	wantKinks(t, sum.made.Kinks(), plain{{q("0"), q("0"), q("0")}, {n.low, q("0"), n.lowDen}, {n.high, over(q("1"), n.highDen), plus(n.lowDen, n.highDen)}})
	wantKinks(t, add(t, b, a).made.Kinks(), sum.plain)
}

// P21.2: when one is put into another it comes up on the way to a place ..
func TestAfterByLongWay(t *testing.T) {
	t.Parallel()
	n := someNeighbours(t)
	f, g := hingeOver(t, n.highNum, n.highDen), n.steep(t)
	wantKinks(t, after(t, f, g).made.Kinks(), plain{{q("0"), q("0"), q("0")}, {plus(q("1"), over(q("1"), n.highDen)), q("0"), over(n.highDen, n.lowDen)}})
}

// P21.2: .. and on the way to a value: g is low at 1, and high a little behind it, where
// it turns.
func TestAfterByLongWayUp(t *testing.T) {
	t.Parallel()
	n := someNeighbours(t)
	turn := hingeOver(t, plus(n.highDen, q("1")), n.highDen)
	c := quick(t, curve.Add, n.steep(t).made, divided(t, divided(t, turn.made, n.highDens), n.lowDens))
	slope, x := over(q("1"), n.lowDen), plus(q("1"), over(q("1"), n.highDen))
	g := took(t, c, api.OK, plain{{q("0"), q("0"), n.low}, {q("1"), n.low, slope}, {x, n.high, times(slope, q("2"))}})
	f := hingeOver(t, n.lowNum, n.lowDen)
	wantKinks(t, after(t, f, g).made.Kinks(), plain{{q("0"), q("0"), q("0")}, {q("1"), q("0"), q("1")}, {x, over(q("1"), n.highDen), q("2")}})
}

// P21.2: where what the one loses the other gains, the value may be long, as there is no
// kink.
func TestAddLongWithoutKink(t *testing.T) {
	t.Parallel()
	place, ofA, ofB := powers(3, 318), powers(5, 318), powers(7, 318)
	one := line(t, q("1")).made
	// Both turn at 1 over the product of place: up by 1, and down by 1.
	up := divided(t, quick(t, curve.After, of(t, "0", "0", "1", "1").made, multiplied(t, one, place)), place)
	down := divided(t, quick(t, curve.After, of(t, "0", "1", "1", "0").made, multiplied(t, one, place)), place)
	x, slopeA, slopeB := over(q("1"), product(place)), over(q("1"), product(ofA)), over(q("1"), product(ofB))
	a := took(t, quick(t, curve.Add, divided(t, one, ofA), up), api.OK, plain{{q("0"), q("0"), slopeA}, {x, times(x, slopeA), plus(slopeA, q("1"))}})
	b := took(t, quick(t, curve.Add, divided(t, one, ofB), down), api.OK, plain{{q("0"), q("0"), plus(slopeB, q("1"))}, {x, times(x, plus(slopeB, q("1"))), slopeB}})
	slope := plus(plus(slopeA, slopeB), q("1"))
	if n := long(times(x, slope)); n <= mostLimbs || long(slope) > mostLimbs {
		t.Fatalf("%d limbs", n)
	}
	wantKinks(t, add(t, a, b).made.Kinks(), plain{{q("0"), q("0"), slope}})
	wantKinks(t, add(t, b, a).made.Kinks(), plain{{q("0"), q("0"), slope}})
	add(t, a, add(t, b, line(t, q("1"))))
	// If the one loses less, there is a kink, and its value is long.
	less := add(t, b, took(t, up, api.OK, plain{{q("0"), q("0"), q("0")}, {x, q("0"), q("1")}}))
	if c, e := curve.Add(a.made, less.made); e != api.ErrLong || c != nil || !plainAdd(a.plain, less.plain).isLong() {
		t.Errorf("error %d", e)
	}
}

// P21.2 to P21.4: curves of long numbers that have little in common, or much, put
// together all with all, and asked.
func TestJoinLong(t *testing.T) {
	t.Parallel()
	roll := dice(227)
	shared := roll.factors(90)
	p, one := of(t, "0", "1/2", "10", "1"), line(t, q("1"))
	list := []both{p, exampleQ(t)}
	for _, by := range [][]*big.Rat{shared, roll.factors(90), append(roll.factors(60), shared[:10]...), roll.factors(400)} {
		n := product(by)
		wide := both{multiplied(t, one.made, by), plain{{q("0"), q("0"), n}}}
		thin := both{divided(t, one.made, by), plain{{q("0"), q("0"), over(q("1"), n)}}}
		list = append(list, after(t, p, thin), after(t, wide, after(t, p, thin)), after(t, thin, p), after(t, thin, after(t, p, wide)))
	}
	refused, made := 0, 0
	for i, a := range list {
		for _, b := range list[i:] {
			n := len(wantJoined(t, a, b))
			made, refused = made+n, refused+4-n
		}
		for _, x := range a.plain.about(false) {
			a.wantAt(t, x)
		}
		for _, y := range a.plain.about(true) {
			a.wantSolve(t, y)
		}
	}
	if made < 500 || refused < 20 {
		t.Errorf("%d made, %d refused", made, refused)
	}
}
