package rat_test

import (
	"testing"

	"tollbook/api"
	"tollbook/nat"
	"tollbook/rat"
	"tollbook/whole"
)

// P5.2: the zero value is 0, in all that is told of it and done with it.
func TestZeroValue(t *testing.T) {
	var none rat.Rat
	wantFrac(t, none, frac{0, 1}, "the zero value")
	wantFrac(t, none.Neg(), frac{0, 1}, "the zero value's Neg")
	for _, f := range someFracs() {
		r := of(t, f)
		plus, e := rat.Add(none, r)
		wantOK(t, e, "0 + r")
		wantFrac(t, plus, f, "0 + r")
		less, e := rat.Sub(r, none)
		wantOK(t, e, "r - 0")
		wantFrac(t, less, f, "r - 0")
		times, e := rat.Mul(r, none)
		wantOK(t, e, "r * 0")
		wantFrac(t, times, frac{0, 1}, "r * 0")
		refused, e := rat.Quo(r, none)
		wantRefused(t, refused, e, api.ErrNought, "r / 0")
		if rat.Compare(r, none) != sign(f.num) || rat.Compare(none, r) != -sign(f.num) {
			t.Errorf("Compare of %d/%d and 0", f.num, f.den)
		}
		wantFrac(t, rat.Between(none, r), frac{0, 1}, "between 0 and r")
	}
	if rat.Floor(none).Sign() != 0 || rat.Ceil(none).Sign() != 0 {
		t.Error("Floor, Ceil of the zero value")
	}
	wantFrac(t, rat.Frac(none), frac{0, 1}, "Frac of the zero value")
}

// P5.2: Long tells the longer part, whichever that is.
func TestLong(t *testing.T) {
	x := mixed(3)
	for _, n := range []int{1, 2, 3, 64, 1023, 1024} {
		long := number(t, n%2 == 0, append([]uint64{1}, x.list(n)[1:]...)...)
		if n == 1 {
			long = whole.Small(m >> 1)
		}
		for _, r := range []rat.Rat{over(t, long, whole.Small(2)), over(t, whole.Small(-2), long), over(t, whole.Small(1), long), over(t, long, whole.Small(-1))} {
			if r.Long() != n {
				t.Errorf("Long of %d limbs: %d", n, r.Long())
			}
		}
	}
	for _, bits := range []int{63, 64, 127, 128, end - 64, end - 1} {
		r := over(t, whole.Small(1), two(t, bits, 0))
		if r.Long() != bits/64+1 || r.Neg().Long() != bits/64+1 {
			t.Errorf("Long of 1 over 2^%d: %d", bits, r.Long())
		}
	}
}

// P5.3: Compare and Neg, of small numbers.
func TestCompare(t *testing.T) {
	for _, f := range someFracs() {
		wantFrac(t, of(t, f).Neg(), frac{-f.num, f.den}, "Neg")
		wantFrac(t, of(t, f).Neg().Neg(), f, "Neg of Neg")
		for _, o := range someFracs() {
			if got := rat.Compare(of(t, f), of(t, o)); got != f.compare(o) {
				t.Errorf("Compare(%d/%d, %d/%d): %d", f.num, f.den, o.num, o.den, got)
			}
		}
	}
}

// P5.3: Compare, of numbers that lie as near to each other as they can.
func TestCompareNear(t *testing.T) {
	t.Parallel()
	longest, next, third := two(t, end, -1), two(t, end, -2), two(t, end, -3)
	rising := []rat.Rat{
		over(t, longest.Neg(), whole.Small(1)), over(t, next.Neg(), whole.Small(1)), over(t, next, third.Neg()), over(t, longest, next.Neg()),
		over(t, whole.Small(-1), whole.Small(1)), over(t, next.Neg(), longest), over(t, whole.Small(-1), next), over(t, whole.Small(-1), longest), {},
		over(t, whole.Small(1), longest), over(t, whole.Small(1), next), over(t, whole.Small(1), whole.Small(2)), over(t, third, next), over(t, next, longest), over(t, whole.Small(1), whole.Small(1)),
		over(t, longest, next), over(t, next, third), over(t, third, whole.Small(1)), over(t, next, whole.Small(1)), over(t, longest, whole.Small(1)),
	}
	for i, a := range rising {
		for j, b := range rising {
			if got := rat.Compare(a, b); got != sign(int64(i-j)) {
				t.Errorf("Compare of the numbers %d and %d: %d", i, j, got)
			}
		}
		wantTold(t, a.Neg(), a.Num().Neg(), a.Den(), "Neg")
	}
}

// P5.4: sums, products, quotients of small numbers.
func TestReckon(t *testing.T) {
	for _, f := range someFracs() {
		for _, o := range someFracs() {
			a, b := of(t, f), of(t, o)
			r, e := rat.Add(a, b)
			wantOK(t, e, "Add")
			wantFrac(t, r, f.plus(o), "Add")
			r, e = rat.Sub(a, b)
			wantOK(t, e, "Sub")
			wantFrac(t, r, f.plus(frac{-o.num, o.den}), "Sub")
			r, e = rat.Mul(a, b)
			wantOK(t, e, "Mul")
			wantFrac(t, r, f.times(o), "Mul")
			r, e = rat.Quo(a, b)
			if o.num == 0 {
				wantRefused(t, r, e, api.ErrNought, "Quo")
				continue
			}
			wantOK(t, e, "Quo")
			turned := frac{o.den * int64(sign(o.num)), o.num * int64(sign(o.num))}
			wantFrac(t, r, f.times(turned), "Quo")
		}
	}
}

// wantReckoned asks for all four calls of two numbers of any length, what is
// too long being found by the layers below.
func wantReckoned(t *testing.T, a, b rat.Rat) {
	t.Helper()
	left, right := product(t, a.Num(), denOf(b)), product(t, b.Num(), denOf(a))
	dens := product(t, denOf(a), denOf(b))
	r, e := rat.Add(a, b)
	wantQuotient(t, r, e, sum(t, left, right), dens, "Add")
	r, e = rat.Sub(a, b)
	wantQuotient(t, r, e, sum(t, left, right.Neg()), dens, "Sub")
	r, e = rat.Mul(a, b)
	wantQuotient(t, r, e, product(t, a.Num(), b.Num()), dens, "Mul")
	r, e = rat.Quo(a, b)
	if b.Sign() == 0 {
		wantRefused(t, r, e, api.ErrNought, "Quo")
		return
	}
	wantQuotient(t, r, e, left, right, "Quo")
}

// P5.4: numbers of a few limbs.
func TestReckonMiddle(t *testing.T) {
	t.Parallel()
	for _, a := range someRats(t) {
		for _, b := range someRats(t) {
			wantReckoned(t, a, b)
		}
	}
}

// P5.4: numbers of 1024 limbs in Num, in Den and in both.
func TestReckonLong(t *testing.T) {
	t.Parallel()
	long := longRats(t)
	for i, a := range long {
		t.Run("", func(t *testing.T) {
			t.Parallel()
			for _, b := range []rat.Rat{{}, of(t, frac{-1, 2}), a.Neg(), long[(i+4)%len(long)]} {
				wantReckoned(t, a, b)
			}
			wantReckoned(t, of(t, frac{2, 3}), a)
		})
	}
}

// edge is a call's answer that must be num over den, or too long.
type edge struct {
	what     string
	call     func(a, b rat.Rat) (rat.Rat, api.Errno)
	a, b     rat.Rat
	want     api.Errno
	num, den whole.Int
}

func wantEdges(t *testing.T, edges []edge) {
	t.Helper()
	for _, c := range edges {
		r, e := c.call(c.a, c.b)
		if c.want != api.OK {
			wantRefused(t, r, e, c.want, c.what)
			continue
		}
		wantOK(t, e, c.what)
		wantTold(t, r, c.num, c.den.Abs(), c.what)
	}
}

// P5.4: sums at the limit, in Num and in Den, and beyond it on the way alone.
func TestSumsAtTheLimit(t *testing.T) {
	t.Parallel()
	unit, none := whole.Small(1), whole.Int{}
	greatest, less := two(t, end, -1), two(t, end, -2)
	one, half, top := of(t, frac{1, 1}), of(t, frac{1, 2}), over(t, greatest, unit)
	odd := two(t, end, -3)
	part, other := over(t, two(t, end-1, -5), greatest), over(t, two(t, end-1, 4), greatest)
	middle := two(t, end/2, 0)
	edges := []edge{
		{"below the top + 1", rat.Add, over(t, less, unit), one, api.OK, greatest, unit},
		{"the top + 1", rat.Add, top, one, api.ErrLong, none, none},
		{"1 + the top", rat.Add, one, top, api.ErrLong, none, none},
		{"the top + 1/2", rat.Add, top, half, api.ErrLong, none, none},
		{"the top + the top", rat.Add, top, top, api.ErrLong, none, none},
		{"-the top - 1", rat.Sub, top.Neg(), one, api.ErrLong, none, none},
		{"the top - -1", rat.Sub, top, one.Neg(), api.ErrLong, none, none},
		{"the top - 1", rat.Sub, top, one, api.OK, less, unit},
		{"the top - 1/2", rat.Sub, top, half, api.ErrLong, none, none},
		{"half of the top + 1/2", rat.Add, over(t, greatest, whole.Small(2)), half, api.OK, two(t, end-1, 0), unit},
		{"half of the top - 1/2", rat.Sub, over(t, greatest, whole.Small(2)), half, api.OK, two(t, end-1, -1), unit},
		{"half of the top + 1", rat.Add, over(t, greatest, whole.Small(2)), one, api.ErrLong, none, none},
		{"the top - the top", rat.Sub, top, top, api.OK, none, unit},
		{"1/top + 1/top", rat.Add, over(t, unit, greatest), over(t, unit, greatest), api.OK, whole.Small(2), greatest},
		{"1/top - 1/top", rat.Sub, over(t, unit, greatest), over(t, unit, greatest), api.OK, none, unit},
		{"parts of the top: 1 in all", rat.Add, part, other, api.OK, unit, unit},
		{"top/odd - 2/odd", rat.Sub, over(t, greatest, odd), over(t, whole.Small(2), odd), api.OK, unit, unit},
		{"top/odd - odd/odd", rat.Sub, over(t, greatest, odd), one, api.OK, whole.Small(2), odd},
		{"top/odd + 1", rat.Add, over(t, greatest, odd), one, api.ErrLong, none, none},
		{"1/top + 1/odd", rat.Add, over(t, unit, greatest), over(t, unit, odd), api.ErrLong, none, none},
		{"top + 1/top", rat.Add, top, over(t, unit, greatest), api.ErrLong, none, none},
		{"dens of 1024 limbs together", rat.Add, over(t, unit, middle), over(t, unit, two(t, end/2, -1)), api.OK, sum(t, middle, middle, whole.Small(-1)), product(t, middle, two(t, end/2, -1))},
		{"dens of 1025 limbs together", rat.Add, over(t, unit, middle), over(t, unit, two(t, end/2, 1)), api.ErrLong, none, none},
		{"dens of 1025 limbs apart", rat.Sub, over(t, unit, two(t, end/2, 1)), over(t, unit, middle), api.ErrLong, none, none},
	}
	wantEdges(t, edges)
}

// P5.4: products and quotients at the limit, and beyond it on the way alone.
func TestProductsAtTheLimit(t *testing.T) {
	t.Parallel()
	unit, none := whole.Small(1), whole.Int{}
	greatest, odd, third := two(t, end, -1), two(t, end, -3), two(t, end, -5)
	two64, lowest := over(t, two(t, 64, 0), unit), over(t, two(t, end-64, 0), unit)
	top := over(t, greatest, unit)
	minus := over(t, greatest, odd.Neg())
	edges := []edge{
		{"L * L", rat.Mul, lowest, lowest, api.ErrLong, none, none},
		{"L * 1/L", rat.Mul, lowest, over(t, unit, two(t, end-64, 0)), api.OK, unit, unit},
		{"L / L", rat.Quo, lowest, lowest, api.OK, unit, unit},
		{"L * 2^63", rat.Mul, lowest, over(t, two(t, 63, 0), unit), api.OK, two(t, end-1, 0), unit},
		{"L * 2^64", rat.Mul, lowest, two64, api.ErrLong, none, none},
		{"L / 2^-64", rat.Quo, lowest, over(t, unit, two(t, 64, 0)), api.ErrLong, none, none},
		{"1/L / 2^63", rat.Quo, over(t, unit, two(t, end-64, 0)), over(t, two(t, 63, 0), unit), api.OK, unit, two(t, end-1, 0)},
		{"1/L / 2^64", rat.Quo, over(t, unit, two(t, end-64, 0)), two64, api.ErrLong, none, none},
		{"1/L * 2^-64", rat.Mul, over(t, unit, two(t, end-64, 0)), over(t, unit, two(t, 64, 0)), api.ErrLong, none, none},
		{"2^k * (2^k + 1)", rat.Mul, over(t, two(t, end/2, 0), unit), over(t, two(t, end/2, 1), unit), api.ErrLong, none, none},
		{"2^k * (2^k - 1)", rat.Mul, over(t, two(t, end/2, 0), unit), over(t, two(t, end/2, -1), unit), api.OK, product(t, two(t, end/2, 0), two(t, end/2, -1)), unit},
		{"a/-b * -b/a", rat.Mul, minus, over(t, odd.Neg(), greatest), api.OK, unit, unit},
		{"a/-b * b/c", rat.Mul, minus, over(t, odd, third), api.OK, greatest.Neg(), third},
		{"a/-b * c/a", rat.Mul, minus, over(t, third, greatest), api.OK, third.Neg(), odd},
		{"a/-b * a/b", rat.Mul, minus, minus.Neg(), api.ErrLong, none, none},
		{"a/-b over a/c", rat.Quo, minus, over(t, greatest, third), api.OK, third.Neg(), odd},
		{"a/-b over -c/b", rat.Quo, minus, over(t, third.Neg(), odd), api.OK, greatest, third},
		{"a/-b over itself", rat.Quo, minus, minus, api.OK, unit, unit},
		{"a/-b over b/a", rat.Quo, minus, over(t, odd, greatest), api.ErrLong, none, none},
		{"top over 0", rat.Quo, top, rat.Rat{}, api.ErrNought, none, none},
		{"0 over 0", rat.Quo, rat.Rat{}, rat.Rat{}, api.ErrNought, none, none},
		{"0 over 0/-7", rat.Quo, rat.Rat{}, over(t, none, whole.Small(-7)), api.ErrNought, none, none},
		{"0 over -top", rat.Quo, rat.Rat{}, top.Neg(), api.OK, none, unit},
		{"1 over -top", rat.Quo, of(t, frac{1, 1}), top.Neg(), api.OK, whole.Small(-1), greatest},
		{"0 * a/-b", rat.Mul, rat.Rat{}, minus, api.OK, none, unit},
		{"top * 1/3", rat.Mul, top, of(t, frac{1, 3}), api.OK, thirdOf(t, greatest), unit},
		{"top * 2/3", rat.Mul, top, of(t, frac{2, 3}), api.OK, product(t, whole.Small(2), thirdOf(t, greatest)), unit},
		{"top * 2", rat.Mul, top, of(t, frac{2, 1}), api.ErrLong, none, none},
		{"top * 7/2", rat.Mul, top, of(t, frac{7, 2}), api.ErrLong, none, none},
	}
	wantEdges(t, edges)
}

// thirdOf is a third of a number that 3 divides.
func thirdOf(t *testing.T, i whole.Int) whole.Int {
	t.Helper()
	third, rest, e := nat.DivMod(i.Abs(), nat.Small(3))
	wantOK(t, e, "nat.DivMod")
	if !rest.IsZero() {
		t.Error("3 does not divide it")
	}
	return whole.New(i.Sign() < 0, third)
}
