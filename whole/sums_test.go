package whole_test

import (
	"testing"

	"tollbook/api"
	"tollbook/nat"
	"tollbook/whole"
)

// P4.3 against the plain way.
func TestSums(t *testing.T) {
	pairs := somePairs(t)
	for _, a := range pairs {
		for _, b := range pairs {
			what := " of " + a.want.text() + ", " + b.want.text()
			sum, e := whole.Add(a.got, b.got)
			wantOK(t, e, "Add"+what)
			wantPlain(t, sum, a.want.plus(b.want), "Add"+what)
			less, e := whole.Sub(a.got, b.got)
			wantOK(t, e, "Sub"+what)
			wantPlain(t, less, a.want.plus(b.want.neg()), "Sub"+what)
			product, e := whole.Mul(a.got, b.got)
			wantOK(t, e, "Mul"+what)
			wantPlain(t, product, a.want.times(b.want), "Mul"+what)
		}
	}
}

// P4.3 at small numbers, all of them.
func TestSmallSums(t *testing.T) {
	told := func(i whole.Int, e api.Errno) int64 {
		x, f := i.Int64()
		if e != api.OK || f != api.OK {
			t.Error("a small number is refused", e, f)
		}
		return x
	}
	for a := int64(-40); a <= 40; a++ {
		for b := int64(-40); b <= 40; b++ {
			x, y := whole.Small(a), whole.Small(b)
			if s, d, p := told(whole.Add(x, y)), told(whole.Sub(x, y)), told(whole.Mul(x, y)); s != a+b || d != a-b || p != a*b {
				t.Errorf("%d, %d: %d, %d, %d", a, b, s, d, p)
			}
		}
	}
}

// P4.3: where a sum is just not too far from 0, and where it is.
func TestLongSums(t *testing.T) {
	n := longNumbers(t)[0]
	half := longNumbers(t)[2]
	one, none := whole.Small(1), whole.Int{}
	for _, flip := range []bool{false, true} {
		if flip {
			n, half, one = n.Neg(), half.Neg(), one.Neg()
		}
		for _, c := range []struct {
			name string
			run  func(a, b whole.Int) (whole.Int, api.Errno)
			a, b whole.Int
		}{
			{"Add", whole.Add, n, one}, {"Add", whole.Add, one, n}, {"Add", whole.Add, n, n}, {"Add", whole.Add, half, half},
			{"Sub", whole.Sub, n, one.Neg()}, {"Sub", whole.Sub, one, n.Neg()}, {"Sub", whole.Sub, n, n.Neg()}, {"Sub", whole.Sub, half.Neg(), half},
			{"Mul", whole.Mul, n, whole.Small(2)}, {"Mul", whole.Mul, whole.Small(-2), n}, {"Mul", whole.Mul, n, n}, {"Mul", whole.Mul, n, n.Neg()},
			{"Mul", whole.Mul, half, whole.Small(2)}, {"Mul", whole.Mul, whole.Small(-2), half},
		} {
			got, e := c.run(c.a, c.b)
			wantRefused(t, got, e, api.ErrLong, c.name)
		}

		less, e := whole.Sub(n, one)
		wantOK(t, e, "Sub(n, 1)")
		wantNumber(t, less, n.Sign(), append([]uint64{m - 1}, repeated(m, most-1)...), "Sub(n, 1)")
		back, e := whole.Add(less, one)
		wantOK(t, e, "Add(n - 1, 1)")
		wantSame(t, back, n, "Add(n - 1, 1)")
		other, e := whole.Add(n, one.Neg())
		wantOK(t, e, "Add(n, -1)")
		wantSame(t, other, less, "Add(n, -1)")
		for _, zero := range []whole.Int{none, none.Neg()} {
			sum, e := whole.Add(n, zero)
			wantOK(t, e, "Add(n, 0)")
			wantSame(t, sum, n, "Add(n, 0)")
			gone, e := whole.Mul(zero, n)
			wantOK(t, e, "Mul(0, n)")
			wantNumber(t, gone, 0, nil, "Mul(0, n)")
		}
		nothing, e := whole.Add(n, n.Neg())
		wantOK(t, e, "Add(n, -n)")
		wantNumber(t, nothing, 0, nil, "Add(n, -n)")
		nothing, e = whole.Sub(n, n)
		wantOK(t, e, "Sub(n, n)")
		wantNumber(t, nothing, 0, nil, "Sub(n, n)")
		turned, e := whole.Mul(n, whole.Small(-1))
		wantOK(t, e, "Mul(n, -1)")
		wantSame(t, turned, n.Neg(), "Mul(n, -1)")
	}
}

// P4.3: a product of the greatest number's length, by what is left of it.
func TestLongProducts(t *testing.T) {
	x := mixed(4)
	for _, n := range []int{1, 2, 100, most / 2, most - 1} {
		for _, signs := range [][2]bool{{false, false}, {false, true}, {true, false}, {true, true}} {
			a, b := whole.New(signs[0], far(t, x.list(n)...)), whole.New(signs[1], far(t, x.list(most-n)...))
			product, e := whole.Mul(a, b)
			wantOK(t, e, "Mul")
			if residuesOf(product) != residuesOf(a).times(residuesOf(b)) || product.Sign() != a.Sign()*b.Sign() {
				t.Errorf("Mul of %d and %d limbs, %v", n, most-n, signs)
			}
			sum, e := whole.Add(product, a)
			if e == api.OK && residuesOf(sum) != residuesOf(product).plus(residuesOf(a)) {
				t.Errorf("Add of %d and %d limbs, %v", most, n, signs)
			}
		}
	}
}

// P4.4 at small numbers, all of them: q is the greatest that is not above, so
// q * b is not beyond a, and with one b more it is.
func TestSmallQuotients(t *testing.T) {
	for a := int64(-60); a <= 60; a++ {
		for b := int64(-25); b <= 25; b++ {
			quotient, rest, e := whole.DivMod(whole.Small(a), whole.Small(b))
			if b == 0 {
				wantRefused(t, quotient, e, api.ErrNought, "DivMod by 0")
				wantRefused(t, rest, e, api.ErrNought, "DivMod by 0")
				continue
			}
			// All over b is the same with both signs turned.
			x, y := a, b
			if b < 0 {
				x, y = -a, -b
			}
			want := int64(-1000)
			for (want+1)*y <= x {
				want++
			}
			q, _ := quotient.Int64()
			r, _ := rest.Int64()
			if q != want || r != a-want*b || e != api.OK {
				t.Errorf("DivMod(%d, %d) is %d, %d, %d, want %d, %d", a, b, q, r, e, want, a-want*b)
			}
		}
	}
}

func TestQuotientExamples(t *testing.T) {
	for _, c := range []struct{ a, b, q, r int64 }{
		{7, 2, 3, 1}, {-7, 2, -4, 1}, {7, -2, -4, -1}, {-7, -2, 3, -1}, {-6, 2, -3, 0}, {6, -2, -3, 0}, {-6, -2, 3, 0}, {0, -9, 0, 0}, {0, 9, 0, 0},
		{1, 2, 0, 1}, {-1, 2, -1, 1}, {1, -2, -1, -1}, {-1, -2, 0, -1}, {maxInt, -1, -maxInt, 0}, {minInt, 1, minInt, 0},
		{minInt, maxInt, -2, maxInt - 1}, {maxInt, minInt, -1, -1}, {minInt, minInt, 1, 0}, {-1, maxInt, -1, maxInt - 1}, {1, minInt, -1, minInt + 1},
	} {
		quotient, rest, e := whole.DivMod(whole.Small(c.a), whole.Small(c.b))
		wantOK(t, e, "DivMod")
		wantSame(t, quotient, whole.Small(c.q), "the quotient of an example")
		wantSame(t, rest, whole.Small(c.r), "the rest of an example")
	}
	quotient, _, e := whole.DivMod(whole.Small(minInt), whole.Small(-1))
	wantOK(t, e, "DivMod(-2^63, -1)")
	wantNumber(t, quotient, 1, []uint64{1 << 63}, "DivMod(-2^63, -1)")
}

// P4.4 against the plain way: q and r are the only ones that are so.
func TestQuotients(t *testing.T) {
	pairs := somePairs(t)
	for _, a := range pairs {
		for _, b := range pairs {
			what := "DivMod of " + a.want.text() + ", " + b.want.text()
			quotient, rest, e := whole.DivMod(a.got, b.got)
			if len(b.want.far) == 0 {
				wantRefused(t, quotient, e, api.ErrNought, what)
				wantRefused(t, rest, e, api.ErrNought, what)
				continue
			}
			wantOK(t, e, what)
			q, r := plainOf(quotient.Sign() < 0, quotient.Abs().Limbs()), plainOf(rest.Sign() < 0, rest.Abs().Limbs())
			if q.times(b.want).plus(r).text() != a.want.text() {
				t.Errorf("%s: %s, %s do not make it up", what, q.text(), r.text())
			}
			if len(r.far) > 0 && r.below != b.want.below || r.far.compare(b.want.far) >= 0 {
				t.Errorf("%s: the rest is %s", what, r.text())
			}
			if (quotient.Sign() == 0) != (len(q.far) == 0) || (rest.Sign() == 0) != (len(r.far) == 0) {
				t.Errorf("%s: signs %d, %d", what, quotient.Sign(), rest.Sign())
			}
		}
	}
}

// P4.4 at numbers of MaxLimbs limbs, all pairs of signs.
func TestLongQuotients(t *testing.T) {
	x := mixed(5)
	divisors := []whole.Int{whole.Small(1), whole.Small(2), whole.Small(10), whole.Small(maxInt), whole.New(false, far(t, 0, 1))}
	for _, n := range []int{3, 50, most / 2, most - 1} {
		divisors = append(divisors, whole.New(false, far(t, x.list(n)...)))
	}
	long := longNumbers(t)
	for _, a := range long {
		for _, b := range append(divisors, long[0], long[2], long[6]) {
			wantQuotient(t, a, b)
			wantQuotient(t, a, b.Neg())
		}
	}
	for _, n := range long[:2] {
		wantQuotient(t, whole.Small(5), n)
		wantQuotient(t, whole.Small(-5), n)
		quotient, rest, e := whole.DivMod(n, whole.Int{})
		wantRefused(t, quotient, e, api.ErrNought, "DivMod(n, 0)")
		wantRefused(t, rest, e, api.ErrNought, "DivMod(n, 0)")
	}
}

// wantQuotient asks by what is left over primes, and where the rest must lie.
func wantQuotient(t *testing.T, a, b whole.Int) {
	t.Helper()
	quotient, rest, e := whole.DivMod(a, b)
	wantOK(t, e, "DivMod")
	if residuesOf(quotient).times(residuesOf(b)).plus(residuesOf(rest)) != residuesOf(a) {
		t.Errorf("DivMod of %d bits by %d bits does not make it up", a.Abs().Bits(), b.Abs().Bits())
	}
	if rest.Sign() != 0 && rest.Sign() != b.Sign() || nat.Compare(rest.Abs(), b.Abs()) >= 0 {
		t.Errorf("DivMod of %d bits by %d bits, signs %d and %d: the rest has the sign %d", a.Abs().Bits(), b.Abs().Bits(), a.Sign(), b.Sign(), rest.Sign())
	}
}
