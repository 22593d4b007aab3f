package curve_test

import (
	"math/big"
	"testing"

	"tollbook/api"
	"tollbook/curve"
)

// bendy turns at all these places: at the first one from more steep to less, at the
// next one back, and so on; mirrored, it turns the other way at each.
func bendy(t *testing.T, places []*big.Rat, mirrored bool) both {
	t.Helper()
	slopes := []string{"1/2", "1/3"}
	if mirrored {
		slopes = []string{"1/3", "1/2"}
	}
	c := line(t, q("0")).made
	var parts []plain
	for from := 0; from < len(places); from += 6 {
		texts := []string{"0", slopes[0]}
		for i := from; i < min(from+6, len(places)); i++ {
			texts = append(texts, places[i].RatString(), slopes[(i+1)%2])
		}
		parts = append(parts, levels(texts...))
		c = quick(t, curve.Add, c, of(t, texts...).made)
	}
	value := func(x *big.Rat) *big.Rat {
		sum := q("0")
		for _, p := range parts {
			sum = plus(sum, p.at(x))
		}
		return sum
	}
	return took(t, c, api.OK, ofValues(value, places))
}

// row are count places, from first on, one from another.
func row(first string, count int) []*big.Rat {
	var list []*big.Rat
	for x := q(first); len(list) < count; x = plus(x, q("1")) {
		list = append(list, x)
	}
	return list
}

func wantLong(t *testing.T, join func(a, b *curve.Curve) (*curve.Curve, api.Errno), a, b both, what string) {
	t.Helper()
	if c, e := join(a.made, b.made); c != nil || e != api.ErrLong {
		t.Errorf("%s: error %d, wanted ErrLong", what, e)
	}
}

// P21.2: a sum of 256 kinks may be, one of 257 is ErrLong; where both curves turn at the
// same place, that is one.
func TestAddKinks(t *testing.T) {
	t.Parallel()
	most, half := bendy(t, row("1", 255), false), bendy(t, row("1/2", 128), false)
	if len(most.plain) != mostKinks {
		t.Fatalf("%d kinks", len(most.plain))
	}
	add(t, most, line(t, q("3")))
	add(t, most, most)
	add(t, most, of(t, "0", "0", "7", "1"))
	wantLong(t, curve.Add, most, of(t, "0", "0", "15/2", "1"), "257 kinks")
	wantLong(t, curve.Add, of(t, "0", "0", "256", "1"), most, "257 kinks")
	wantLong(t, curve.Add, most, half, "384 kinks")
	if n := len(add(t, half, bendy(t, row("1", 127), true)).plain); n != mostKinks {
		t.Errorf("%d kinks", n)
	}
	wantLong(t, curve.Add, half, bendy(t, row("1", 128), true), "257 kinks")
}

// P21.2: of more than 256 places at which one of both turns, those at which what the one
// loses the other gains are no kinks.
func TestAddManyPlaces(t *testing.T) {
	t.Parallel()
	most := bendy(t, row("1", 255), false)
	if n := len(add(t, most, bendy(t, row("1", 255), true)).plain); n != 1 {
		t.Errorf("%d kinks", n)
	}
	// The other one takes 102 kinks back, and has 102 or 103 of its own.
	for _, own := range []int{102, 103} {
		other := bendy(t, append(row("1", 102), row("401/2", own)...), true)
		if own == 102 {
			if n := len(add(t, most, other).plain); n != mostKinks {
				t.Errorf("%d kinks", n)
			}
			continue
		}
		wantLong(t, curve.Add, most, other, "257 kinks")
		wantLong(t, curve.Add, other, most, "257 kinks")
	}
}

// P21.2: the same of one put into another.
func TestAfterKinks(t *testing.T) {
	t.Parallel()
	most, one := bendy(t, row("1", 255), false), line(t, q("1"))
	after(t, most, one)
	after(t, one, most)
	after(t, line(t, q("1/3")), most)
	// Where most comes to 5 nothing of it turns.
	wantLong(t, curve.After, of(t, "0", "1/2", "5", "1"), most, "257 kinks")
	wantLong(t, curve.After, most, of(t, "0", "1/2", "5", "1/3"), "257 kinks")
	// What stays flat from 5 on never comes to where most turns next.
	if n := len(after(t, most, of(t, "0", "1", "5", "0")).plain); n != 6 {
		t.Errorf("%d kinks", n)
	}
	half := bendy(t, row("1", 127), false)
	turning := add(t, of(t, "0", "0", "1000", "1"), bendy(t, row("2000", 127), false))
	if n := len(after(t, half, turning).plain) + len(after(t, turning, half).plain); n < 500 {
		t.Errorf("%d kinks", n)
	}
}

// corner is 1 steep up to 1, and 2 steep from there on; moved, it stands at (x, y), both
// powers of 2, which are as far from 1 as one likes.
func corner(t *testing.T) both {
	t.Helper()
	return add(t, line(t, q("1")), of(t, "0", "0", "1", "1"))
}

// power is 2 to any power, below 0 too.
func power(bits int) *big.Rat {
	if bits < 0 {
		return over(q("1"), two(uint(-bits), 0))
	}
	return two(uint(bits), 0)
}

// steps are 2 to the power bits as a product of what Line takes.
func steps(bits int) []*big.Rat {
	var list []*big.Rat
	for ; bits != 0; bits -= step(bits) {
		list = append(list, power(step(bits)))
	}
	return list
}

func step(bits int) int {
	return max(-191, min(191, bits))
}

// far is the corner moved to (2^bits, 2^bits).
func far(t *testing.T, bits int) both {
	t.Helper()
	c := corner(t).made
	for _, by := range steps(bits) {
		c = quick(t, curve.After, c, line(t, over(q("1"), by)).made)
		c = quick(t, curve.After, line(t, by).made, c)
	}
	return took(t, c, api.OK, plain{{q("0"), q("0"), q("1")}, {power(bits), power(bits), q("2")}})
}

// P21.2: X of 640 limbs above the line or below it may be, of 641 it is long, though Y is
// not; and the other way round.
func TestLongXAndY(t *testing.T) {
	t.Parallel()
	end := mostLimbs * limbBits
	for _, bits := range []int{end - 1, -(end - 1)} {
		b, away, back := far(t, bits), line(t, q("1/2")), line(t, q("2"))
		if bits < 0 {
			away, back = back, away
		}
		wantLong(t, curve.After, b, away, "X of 641 limbs")
		wantLong(t, curve.After, back, b, "Y of 641 limbs")
		after(t, b, back)
		after(t, away, b)
		after(t, after(t, away, b), back)
	}
	b := far(t, end-1)
	add(t, b, line(t, q("1/2")))
	wantLong(t, curve.Add, b, line(t, q("1")), "Y of 641 limbs")
	b = far(t, -(end - 1))
	add(t, b, line(t, q("1")))
	wantLong(t, curve.Add, b, line(t, q("1/2")), "Y of 641 limbs")
}

// P21.2: Slope of 640 limbs may be, of 641 it is long: of the first kink, and of the last
// one alone.
func TestLongSlope(t *testing.T) {
	t.Parallel()
	end := uint(mostLimbs * limbBits)
	for _, slope := range []*big.Rat{two(end, -1), two(end-1, 0), two(end-64, 0)} {
		made := wholeLine(t, slope)
		b := took(t, made, api.OK, plain{{q("0"), q("0"), slope}})
		more := minus(two(end, 0), slope)
		if long(more) <= mostFigure {
			wantLong(t, curve.Add, b, line(t, more), "a slope of 641 limbs")
		}
		wantLong(t, curve.After, line(t, two(64, 0)), b, "a slope of 641 limbs")
		wantLong(t, curve.After, b, line(t, two(64, 0)), "a slope of 641 limbs")
		bent := after(t, b, of(t, "0", "0", "1", "1"))
		wantLong(t, curve.After, line(t, two(64, 0)), bent, "a slope of 641 limbs behind 1")
		if slope.Num().Bit(0) == 1 {
			wantLong(t, curve.Add, bent, line(t, q("1")), "a slope of 641 limbs behind 1")
			wantLong(t, curve.Add, bent, of(t, "0", "0", "2", "1"), "a slope of 641 limbs behind 2")
			wantLong(t, curve.Add, bent, of(t, "0", "0", "2", "1/2"), "a slope of 641 limbs behind 2")
			add(t, bent, of(t, "0", "1", "1", "0"))
		}
	}
	thin := line(t, q("1")).made
	for _, by := range steps(-int(end) + 1) {
		thin = quick(t, curve.After, thin, line(t, by).made)
	}
	b := took(t, thin, api.OK, plain{{q("0"), q("0"), power(-int(end) + 1)}})
	wantLong(t, curve.After, b, line(t, q("1/2")), "a slope of 641 limbs")
	wantLong(t, curve.After, line(t, q("1/2")), b, "a slope of 641 limbs")
	wantLong(t, curve.Add, b, line(t, q("1/3")), "a slope of 641 limbs")
	after(t, b, line(t, q("2")))
	add(t, b, line(t, q("1/2")))
}

// asked are numbers of 640 limbs, and of 641 or more, above the line, below it, or both.
func asked() (fit, long []*big.Rat) {
	end := uint(mostLimbs * limbBits)
	roll := dice(61)
	a, b := roll.odd(mostLimbs), roll.odd(mostLimbs)
	fit = []*big.Rat{two(end, -1), two(end-1, 0), over(q("1"), two(end-1, 0)), over(q("1"), two(end, -1)), over(two(end, -1), two(end, -3)), a, over(a, b), over(b, roll.whole(3))}
	long = []*big.Rat{two(end, 0), two(end, 1), over(q("1"), two(end, 0)), over(two(end, -1), two(end, 1)), over(two(end, 1), two(end, -1)), roll.whole(641), over(roll.whole(1024), roll.whole(1024)), two(mostRatio*limbBits, -1)}
	return fit, long
}

// P21.3: x and y of 640 limbs are taken, those of 641 are ErrLong; below 0 they are
// ErrArg, however long; y is ErrLong ahead of ErrCurve.
func TestAskedLong(t *testing.T) {
	t.Parallel()
	fit, long := asked()
	for _, b := range []both{exampleP(t), exampleQ(t), line(t, q("0")), line(t, q("22/7")), bendy(t, row("1", 12), false)} {
		for _, r := range fit {
			b.wantAt(t, r)
			b.wantSolve(t, r)
			wantNot(t, b, minusOf(r), api.ErrArg)
		}
		for _, r := range long {
			wantNot(t, b, r, api.ErrLong)
			wantNot(t, b, minusOf(r), api.ErrArg)
		}
		wantNot(t, b, q("-1/1000000007"), api.ErrArg)
	}
}

// wantNot wants At and Solve to be refused.
func wantNot(t *testing.T, b both, r *big.Rat, want api.Errno) {
	t.Helper()
	y, one := b.made.At(number(t, r))
	x, two := b.made.Solve(number(t, r))
	if one != want || two != want || x.Sign() != 0 || y.Sign() != 0 {
		t.Fatalf("%d limbs: errors %d, %d, wanted %d", long(r), one, two, want)
	}
}

// P21.3: a value of 1024 limbs is told, one of 1025 is ErrLong: above the line and below
// it; likewise a place.
func TestToldLong(t *testing.T) {
	t.Parallel()
	ratioEnd, curveEnd := mostRatio*limbBits, mostLimbs*limbBits
	rest := ratioEnd - curveEnd
	one := line(t, q("1")).made
	for _, sign := range []int{1, -1} {
		for _, more := range []int{0, 1} {
			c := one
			for _, by := range steps(sign * (rest + more)) {
				c = quick(t, curve.After, line(t, by).made, c)
			}
			slope := power(sign * (rest + more))
			b := took(t, c, api.OK, plain{{q("0"), q("0"), slope}})
			// The value has 65536 bits, or one more; a 1 behind as many noughts.
			x := power(sign * (curveEnd - 1))
			want := api.OK
			if long(times(slope, x)) != mostRatio+more {
				t.Fatalf("%d limbs", long(times(slope, x)))
			}
			if more > 0 {
				want = api.ErrLong
			}
			b.wantAt(t, x)
			if _, e := b.made.At(number(t, x)); e != want {
				t.Errorf("error %d, wanted %d", e, want)
			}
			y := over(q("1"), x)
			b.wantSolve(t, y)
			if _, e := b.made.Solve(number(t, y)); e != want {
				t.Errorf("error %d, wanted %d", e, want)
			}
		}
	}
}

// P21.3: x and y at a long kink, just below it and just above.
func TestAskedAboutLongKinks(t *testing.T) {
	t.Parallel()
	end := mostLimbs * limbBits
	near := power(-3000)
	for _, bits := range []int{end - 1, end / 2, -end / 2, -(end - 1)} {
		b := far(t, bits)
		for _, r := range []*big.Rat{power(bits), plus(power(bits), near), plus(power(bits), q("1")), minus(power(bits), near), minus(power(bits), q("1")), times(power(bits), q("2")), times(power(bits), q("1/3"))} {
			if r.Sign() > 0 && long(r) <= mostLimbs {
				b.wantAt(t, r)
				b.wantSolve(t, r)
			}
		}
	}
}
