package rat_test

// What the tests hold the package against: small fractions, reckoned with in
// int64s in the plainest ways; and, for long numbers, the layers below, with
// nothing of the package in it.

import (
	"slices"
	"testing"

	"tollbook/api"
	"tollbook/nat"
	"tollbook/rat"
	"tollbook/whole"
)

const (
	m      = 1<<64 - 1
	most   = api.MaxRatio
	maxInt = 1<<63 - 1
	minInt = -1 << 63
)

// frac is a small number; den is above 0, but nothing is brought down.
type frac struct {
	num, den int64
}

func sign(x int64) int {
	switch {
	case x < 0:
		return -1
	case x > 0:
		return 1
	}
	return 0
}

func (f frac) plus(o frac) frac {
	return frac{f.num*o.den + o.num*f.den, f.den * o.den}
}

func (f frac) times(o frac) frac {
	return frac{f.num * o.num, f.den * o.den}
}

func (f frac) compare(o frac) int {
	return sign(f.num*o.den - o.num*f.den)
}

// down is the number in lowest terms: all numbers are tried.
func (f frac) down() frac {
	for by := f.den; by > 1; by-- {
		if f.num%by == 0 && f.den%by == 0 {
			return frac{f.num / by, f.den / by}
		}
	}
	return f
}

// someFracs are all with small parts, in lowest terms, and some greater ones.
func someFracs() []frac {
	fracs := []frac{}
	for den := int64(1); den <= 7; den++ {
		for num := int64(-15); num <= 15; num++ {
			if f := (frac{num, den}); f.down() == f {
				fracs = append(fracs, f)
			}
		}
	}
	return append(fracs, frac{100, 99}, frac{-99, 100}, frac{1, 30}, frac{-1, 60}, frac{355, 113}, frac{-1000, 17})
}

func of(t *testing.T, f frac) rat.Rat {
	t.Helper()
	r, e := rat.Small(f.num, f.den)
	wantOK(t, e, "Small")
	return r
}

func wantOK(t *testing.T, e api.Errno, what string) {
	t.Helper()
	if e != api.OK {
		t.Errorf("%s: error %d", what, e)
	}
}

// wantFrac asks for a small number, in lowest terms, in all that is told of it.
func wantFrac(t *testing.T, r rat.Rat, want frac, what string) {
	t.Helper()
	low := want.down()
	num, e := r.Num().Int64()
	den, ok := r.Den().Uint64()
	if num != low.num || e != api.OK || den != uint64(low.den) || !ok || r.Sign() != sign(low.num) || r.Long() != 1 {
		t.Errorf("%s is %d/%d (sign %d, %d limbs), want %d/%d", what, num, den, r.Sign(), r.Long(), low.num, low.den)
	}
	wantTold(t, r, whole.Small(low.num), nat.Small(uint64(low.den)), what)
}

// wantTold asks for all that is told of a number, num and den being in lowest
// terms.
func wantTold(t *testing.T, r rat.Rat, num whole.Int, den nat.Nat, what string) {
	t.Helper()
	plain, above, below := r.Plain(), num.Abs().Limbs(), den.Limbs()
	if plain.Neg != (num.Sign() < 0) || !slices.Equal(plain.Num, above) || !slices.Equal(plain.Den, below) {
		t.Errorf("%s: Plain has Neg %t, %d limbs over %d, want %t, %d over %d", what, plain.Neg, len(plain.Num), len(plain.Den), num.Sign() < 0, len(above), len(below))
	}
	if whole.Compare(r.Num(), num) != 0 || nat.Compare(r.Den(), den) != 0 {
		t.Errorf("%s: Num has %d bits, Den %d, want %d, %d", what, r.Num().Abs().Bits(), r.Den().Bits(), num.Abs().Bits(), den.Bits())
	}
	if r.Sign() != num.Sign() || r.Long() != max(len(above), len(below)) {
		t.Errorf("%s: Sign %d, Long %d, want %d, %d", what, r.Sign(), r.Long(), num.Sign(), max(len(above), len(below)))
	}
}

// wantQuotient asks for num over den, or that it is too long. The layers below
// bring it down.
func wantQuotient(t *testing.T, r rat.Rat, e api.Errno, num, den whole.Int, what string) {
	t.Helper()
	common := nat.Gcd(num.Abs(), den.Abs())
	above, _, _ := nat.DivMod(num.Abs(), common)
	below, _, _ := nat.DivMod(den.Abs(), common)
	if max(len(above.Limbs()), len(below.Limbs())) > most {
		wantRefused(t, r, e, api.ErrLong, what)
		return
	}
	wantOK(t, e, what)
	wantTold(t, r, whole.New(num.Sign()*den.Sign() < 0, above), below, what)
}

// wantRefused: the error, and 0 beside it.
func wantRefused(t *testing.T, r rat.Rat, e, want api.Errno, what string) {
	t.Helper()
	if e != want {
		t.Errorf("%s: error %d, want %d", what, e, want)
	}
	wantTold(t, r, whole.Int{}, nat.Small(1), what+", which is refused")
}

func same(a, b rat.Rat) bool {
	p, q := a.Plain(), b.Plain()
	return p.Neg == q.Neg && slices.Equal(p.Num, q.Num) && slices.Equal(p.Den, q.Den)
}

func wantSame(t *testing.T, a, b rat.Rat, what string) {
	t.Helper()
	if !same(a, b) {
		t.Errorf("%s: a number of %d limbs, and one of %d", what, a.Long(), b.Long())
	}
}

// wantNormal asks by the document's own words.
func wantNormal(t *testing.T, r rat.Rat, what string) {
	t.Helper()
	p := r.Plain()
	trimmed := func(l []uint64) bool { return len(l) == 0 || l[len(l)-1] != 0 }
	one, _ := nat.Gcd(natOf(t, p.Num), natOf(t, p.Den)).Uint64()
	if !trimmed(p.Num) || !trimmed(p.Den) || len(p.Den) == 0 || one != 1 || p.Neg && len(p.Num) == 0 || max(len(p.Num), len(p.Den)) > most {
		t.Errorf("%s is not normal: Neg %t, %d limbs over %d", what, p.Neg, len(p.Num), len(p.Den))
	}
}

func natOf(t *testing.T, l []uint64) nat.Nat {
	t.Helper()
	n, e := nat.Of(l)
	wantOK(t, e, "nat.Of")
	return n
}

func number(t *testing.T, below bool, l ...uint64) whole.Int {
	t.Helper()
	return whole.New(below, natOf(t, l))
}

func product(t *testing.T, factors ...whole.Int) whole.Int {
	t.Helper()
	all := whole.Small(1)
	for _, f := range factors {
		var e api.Errno
		all, e = whole.Mul(all, f)
		wantOK(t, e, "a product of the test's own")
	}
	return all
}

func sum(t *testing.T, parts ...whole.Int) whole.Int {
	t.Helper()
	all := whole.Int{}
	for _, p := range parts {
		var e api.Errno
		all, e = whole.Add(all, p)
		wantOK(t, e, "a sum of the test's own")
	}
	return all
}

// two is 2 to the power n, and as much more as is told.
func two(t *testing.T, n int, more int64) whole.Int {
	t.Helper()
	power, e := nat.Left(nat.Small(1), n)
	wantOK(t, e, "nat.Left")
	return sum(t, whole.New(false, power), whole.Small(more))
}

// denOf is a denominator as a whole number.
func denOf(r rat.Rat) whole.Int {
	return whole.New(false, r.Den())
}

func over(t *testing.T, num, den whole.Int) rat.Rat {
	t.Helper()
	r, e := rat.New(num, den)
	wantOK(t, e, "New")
	return r
}

// end is the number of bits of the longest part that may be: 2^end is too long.
const end = 64 * most

// longRats are of 1024 limbs in Num, in Den and in both, on both sides of 0.
func longRats(t *testing.T) []rat.Rat {
	t.Helper()
	x := mixed(5)
	one := whole.Small(1)
	return []rat.Rat{
		over(t, two(t, end, -1), one),
		over(t, two(t, end-64, 0), whole.Small(-1)),
		over(t, one, two(t, end, -1)),
		over(t, whole.Small(-3), two(t, end-64, 0)),
		over(t, two(t, end, -1), two(t, end, -3)),
		over(t, two(t, end-64, 1), two(t, end, -1).Neg()),
		over(t, number(t, true, x.list(most)...), number(t, false, x.list(most)...)),
		over(t, number(t, false, x.list(most)...), number(t, false, x.list(700)...)),
		over(t, number(t, true, x.list(3)...), number(t, false, x.list(most)...)),
	}
}

// middleRats have a few limbs.
func middleRats(t *testing.T) []rat.Rat {
	t.Helper()
	x := mixed(9)
	rats := []rat.Rat{
		over(t, whole.Small(minInt), whole.Small(maxInt)), over(t, whole.Small(1), whole.Small(minInt)),
		over(t, number(t, false, 0, 1), number(t, false, m)), over(t, number(t, true, m, m), number(t, false, 0, 0, 1)),
	}
	for i := range 14 {
		rats = append(rats, over(t, number(t, i%2 == 0, x.list(1+i%5)...), number(t, false, x.list(1+i%3)...)))
	}
	return rats
}

// someRats are short ones, 0 in all its makes, and ones of a few limbs.
func someRats(t *testing.T) []rat.Rat {
	t.Helper()
	rats := []rat.Rat{{}, rat.Rat{}.Neg(), of(t, frac{0, 1}), over(t, whole.Small(0), whole.Small(-7))}
	for _, f := range []frac{{1, 1}, {-1, 1}, {1, 2}, {-1, 2}, {2, 3}, {-7, 2}, {3, 1}, {-12, 1}, {22, 7}, {-1, 100}} {
		rats = append(rats, of(t, f))
	}
	return append(rats, middleRats(t)...)
}

// mixed tells numbers without an order, the same ones in every run.
type mixed uint64

func (x *mixed) next() uint64 {
	*x += 0x9e3779b97f4a7c15
	z := uint64(*x)
	z = (z ^ z>>30) * 0xbf58476d1ce4e5b9
	z = (z ^ z>>27) * 0x94d049bb133111eb
	return z ^ z>>31
}

// list has just n limbs, the highest not 0; some are 0 or the greatest.
func (x *mixed) list(n int) []uint64 {
	l := make([]uint64, n)
	for i := range l {
		switch x.next() % 4 {
		case 0:
			l[i] = 0
		case 1:
			l[i] = m
		default:
			l[i] = x.next()
		}
	}
	if n > 0 {
		l[n-1] |= 1 << (x.next() % 64)
	}
	return l
}

func repeated(x uint64, n int) []uint64 {
	return slices.Repeat([]uint64{x}, n)
}

// The plain ways are themselves held against what anyone knows.
func TestPlain(t *testing.T) {
	half, third := frac{1, 2}, frac{-1, 3}
	if half.plus(third).down() != (frac{1, 6}) || half.times(third).down() != (frac{-1, 6}) || half.compare(third) != 1 || third.compare(half) != -1 {
		t.Error("plus, times, compare")
	}
	if (frac{0, 9}).down() != (frac{0, 1}) || (frac{-12, 8}).down() != (frac{-3, 2}) || (frac{6, 4}).compare(frac{3, 2}) != 0 || half.plus(half).down() != (frac{1, 1}) {
		t.Error("down")
	}
	if len(someFracs()) < 100 || !slices.Contains(someFracs(), frac{-15, 7}) || slices.Contains(someFracs(), frac{2, 4}) {
		t.Error("someFracs")
	}
}
