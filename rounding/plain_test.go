package rounding_test

// What the tests hold the package against: for small numbers all whole ones
// near by are tried, in int64s; for long ones the chapter's table is asked of
// floor and ceiling, by the layers below, with nothing of the package in it.

import (
	"slices"
	"testing"

	"tollbook/api"
	"tollbook/nat"
	"tollbook/rat"
	"tollbook/rounding"
	"tollbook/whole"
)

const (
	maxInt = 1<<63 - 1
	minInt = -1 << 63
	// end is the number of bits of the longest part that may be: 2^end is too long.
	end = 64 * api.MaxRatio
)

func modes() []api.Mode {
	return []api.Mode{api.ModeFloor, api.ModeCeil, api.ModeUp, api.ModeDown, api.ModeEven}
}

func wrongModes() []api.Mode {
	return []api.Mode{-1, 0, 6, -6, 7, 8, 255, 256, 257, 1<<32 + 1, -1 << 32, 1<<32 + 5, maxInt, minInt, minInt + 1}
}

// frac is a small number; den is above 0, and both need not be in lowest terms.
type frac struct {
	num, den int64
}

// someFracs are all with small parts; so whole numbers, and those in the middle
// of two and just beside it, with an even and an odd one below, on both sides
// of 0.
func someFracs() []frac {
	fracs := []frac{}
	for den := int64(1); den <= 12; den++ {
		for num := -5*den - 3; num <= 5*den+3; num++ {
			fracs = append(fracs, frac{num, den})
		}
	}
	for _, whole := range []int64{0, 1, 2, 3, 99, 100} {
		for _, num := range []int64{whole * 1000, whole*1000 + 1, whole*1000 + 499, whole*1000 + 500, whole*1000 + 501, whole*1000 + 999} {
			fracs = append(fracs, frac{num, 1000}, frac{-num, 1000})
		}
	}
	return fracs
}

func apart(a, b int64) int64 {
	if a < b {
		return b - a
	}
	return a - b
}

// plainTo goes through all whole numbers around, upward, by the words of the
// table.
func plainTo(f frac, m api.Mode) int64 {
	first := f.num/f.den - 3
	best := first
	for n := first + 1; n <= first+6; n++ {
		nearer := apart(n*f.den, f.num) < apart(best*f.den, f.num)
		asNear := apart(n*f.den, f.num) == apart(best*f.den, f.num)
		switch m {
		case api.ModeFloor:
			if n*f.den <= f.num {
				best = n
			}
		case api.ModeCeil:
			if best*f.den < f.num {
				best = n
			}
		case api.ModeUp:
			if nearer || asNear {
				best = n
			}
		case api.ModeDown:
			if nearer {
				best = n
			}
		case api.ModeEven:
			if nearer || asNear && n%2 == 0 {
				best = n
			}
		}
	}
	return best
}

// comesTo is whether num over den is rounded to n; den is above 0.
func comesTo(t *testing.T, n, num, den whole.Int, m api.Mode) bool {
	t.Helper()
	far := sum(t, product(t, n, den), num.Neg())
	toMiddle := whole.Compare(product(t, far, whole.Small(2)), den)
	fromMiddle := whole.Compare(product(t, far, whole.Small(-2)), den)
	switch m {
	case api.ModeFloor:
		return far.Sign() <= 0 && whole.Compare(far.Neg(), den) < 0
	case api.ModeCeil:
		return far.Sign() >= 0 && whole.Compare(far, den) < 0
	case api.ModeUp:
		return toMiddle <= 0 && fromMiddle < 0
	case api.ModeDown:
		return toMiddle < 0 && fromMiddle <= 0
	}
	return toMiddle < 0 && fromMiddle < 0 || (toMiddle == 0 || fromMiddle == 0) && isEven(n)
}

func isEven(i whole.Int) bool {
	limbs := i.Abs().Limbs()
	return len(limbs) == 0 || limbs[0]%2 == 0
}

// longTo is the one of two neighbours to which num over den is rounded.
func longTo(t *testing.T, num, den whole.Int, m api.Mode) whole.Int {
	t.Helper()
	floor, _, e := whole.DivMod(num, den)
	wantOK(t, e, "whole.DivMod")
	next := sum(t, floor, whole.Small(1))
	isFloor, isNext := comesTo(t, floor, num, den, m), comesTo(t, next, num, den, m)
	if isFloor == isNext {
		t.Fatalf("mode %d: not just one of two neighbours", m)
	}
	if isNext {
		return next
	}
	return floor
}

// longUnits is what Units answers, the layers below bringing it down.
func longUnits(t *testing.T, r, unit rat.Rat, m api.Mode) (rat.Rat, api.Errno) {
	t.Helper()
	times := longTo(t, product(t, r.Num(), denOf(unit)), product(t, denOf(r), unit.Num()), m)
	num := product(t, times, unit.Num())
	common := nat.Gcd(num.Abs(), unit.Den())
	above, _, e := nat.DivMod(num.Abs(), common)
	wantOK(t, e, "nat.DivMod")
	below, _, e := nat.DivMod(unit.Den(), common)
	wantOK(t, e, "nat.DivMod")
	if max(above.Bits(), below.Bits()) > end {
		return rat.Rat{}, api.ErrLong
	}
	return over(t, whole.New(num.Sign() < 0, above), whole.New(false, below)), api.OK
}

func ratio(t *testing.T, num, den int64) rat.Rat {
	t.Helper()
	r, e := rat.Small(num, den)
	wantOK(t, e, "rat.Small")
	return r
}

func over(t *testing.T, num, den whole.Int) rat.Rat {
	t.Helper()
	r, e := rat.New(num, den)
	wantOK(t, e, "rat.New")
	return r
}

func wholeRat(t *testing.T, i whole.Int) rat.Rat {
	t.Helper()
	return over(t, i, whole.Small(1))
}

// plus is a sum of ratios that is not too long.
func plus(t *testing.T, parts ...rat.Rat) rat.Rat {
	t.Helper()
	all := rat.Rat{}
	for _, p := range parts {
		var e api.Errno
		all, e = rat.Add(all, p)
		wantOK(t, e, "rat.Add")
	}
	return all
}

func number(t *testing.T, below bool, l ...uint64) whole.Int {
	t.Helper()
	n, e := nat.Of(l)
	wantOK(t, e, "nat.Of")
	return whole.New(below, n)
}

func product(t *testing.T, factors ...whole.Int) whole.Int {
	t.Helper()
	all := whole.Small(1)
	for _, f := range factors {
		var e api.Errno
		all, e = whole.Mul(all, f)
		wantOK(t, e, "whole.Mul")
	}
	return all
}

func sum(t *testing.T, parts ...whole.Int) whole.Int {
	t.Helper()
	all := whole.Int{}
	for _, p := range parts {
		var e api.Errno
		all, e = whole.Add(all, p)
		wantOK(t, e, "whole.Add")
	}
	return all
}

// two is 2 to the power n, and as much more as is told.
func two(t *testing.T, n int, more int64) whole.Int {
	t.Helper()
	power, e := nat.Left(nat.Small(1), n)
	wantOK(t, e, "nat.Left")
	return sum(t, whole.New(false, power), whole.Small(more))
}

func denOf(r rat.Rat) whole.Int {
	return whole.New(false, r.Den())
}

// middleRats have a few limbs; some lie in the middle of two whole numbers, or
// as near to it as their denominators let them.
func middleRats(t *testing.T) []rat.Rat {
	t.Helper()
	x := mixed(7)
	rats := []rat.Rat{
		ratio(t, maxInt, 2), ratio(t, minInt+1, 2), ratio(t, minInt, maxInt), ratio(t, 1, minInt), ratio(t, maxInt, 1), ratio(t, minInt, 1),
		over(t, two(t, 64, 0), two(t, 65, -1)), over(t, two(t, 64, -1), two(t, 65, -1)), over(t, two(t, 130, 1), whole.Small(-2)), over(t, two(t, 130, 3), whole.Small(2)),
		over(t, two(t, 192, 0), two(t, 64, 1)), over(t, two(t, 192, -1).Neg(), two(t, 128, 0)),
	}
	for i := range 20 {
		rats = append(rats, over(t, number(t, i%2 == 0, x.list(1+i%5)...), number(t, false, x.list(1+i%3)...)))
	}
	return rats
}

// longRats are of 1024 limbs in Num, in Den and in both, on both sides of 0:
// whole ones, those in the middle, and those as near to it as can be.
func longRats(t *testing.T) []rat.Rat {
	t.Helper()
	x := mixed(70)
	one, half := whole.Small(1), whole.Small(2)
	rats := []rat.Rat{
		over(t, two(t, end, -1), one), over(t, two(t, end-64, 0), one), over(t, two(t, end, -2), one),
		over(t, two(t, end, -1), half), over(t, two(t, end, -3), half),
		over(t, one, two(t, end, -1)), over(t, whole.Small(3), two(t, end-64, 0)),
		over(t, two(t, end-1, 0), two(t, end, -1)), over(t, two(t, end-1, -1), two(t, end, -1)),
		over(t, two(t, end, -1), two(t, end, -3)), over(t, two(t, end, -3), two(t, end, -1)),
		over(t, two(t, end, -1), two(t, end-1, 0)), over(t, two(t, end, -1), two(t, end/2, 0)),
		over(t, number(t, false, x.list(api.MaxRatio)...), number(t, false, x.list(api.MaxRatio)...)),
		over(t, number(t, false, x.list(api.MaxRatio)...), number(t, false, x.list(700)...)),
		over(t, number(t, false, x.list(3)...), number(t, false, x.list(api.MaxRatio)...)),
	}
	for _, r := range slices.Clone(rats) {
		rats = append(rats, r.Neg())
	}
	return rats
}

func same(a, b rat.Rat) bool {
	p, q := a.Plain(), b.Plain()
	return p.Neg == q.Neg && slices.Equal(p.Num, q.Num) && slices.Equal(p.Den, q.Den)
}

func wantOK(t *testing.T, e api.Errno, what string) {
	t.Helper()
	if e != api.OK {
		t.Errorf("%s: error %d", what, e)
	}
}

// to is what r is rounded to.
func to(t *testing.T, r rat.Rat, m api.Mode) whole.Int {
	t.Helper()
	n, e := rounding.To(r, m)
	wantOK(t, e, "To")
	return n
}

// told is a number that can stand in a report.
func told(r rat.Rat) string {
	short := func(s string) string {
		if len(s) > 50 {
			return s[:20] + " .. " + s[len(s)-20:]
		}
		return s
	}
	return short(whole.Text(r.Num())) + "/" + short(whole.Text(denOf(r)))
}

// mixed tells numbers without an order, the same ones in every run.
type mixed uint64

func (x *mixed) next() uint64 {
	*x += 0x9e3779b97f4a7c15
	z := uint64(*x)
	z = (z ^ z>>30) * 0xbf58476d1ce4e5b9
	z = (z ^ z>>27) * 0x94d049bb133111eb
	return z ^ z>>31
}

// list has just n limbs, the highest not 0; some are 0 or the greatest.
func (x *mixed) list(n int) []uint64 {
	l := make([]uint64, n)
	for i := range l {
		switch x.next() % 4 {
		case 0:
			l[i] = 0
		case 1:
			l[i] = 1<<64 - 1
		default:
			l[i] = x.next()
		}
	}
	l[n-1] |= 1 << (x.next() % 64)
	return l
}

// table is that of the chapter, and more rows of its kind: a number, and what
// it comes to by each mode.
func table() []struct {
	f    frac
	want [5]int64
} {
	return []struct {
		f    frac
		want [5]int64
	}{
		{frac{5, 2}, [5]int64{2, 3, 3, 2, 2}}, {frac{7, 2}, [5]int64{3, 4, 4, 3, 4}}, {frac{-5, 2}, [5]int64{-3, -2, -2, -3, -2}}, {frac{-1, 2}, [5]int64{-1, 0, 0, -1, 0}},
		{frac{1, 3}, [5]int64{0, 1, 0, 0, 0}}, {frac{-2, 3}, [5]int64{-1, 0, -1, -1, -1}}, {frac{4, 1}, [5]int64{4, 4, 4, 4, 4}},
		{frac{0, 1}, [5]int64{0, 0, 0, 0, 0}}, {frac{-4, 1}, [5]int64{-4, -4, -4, -4, -4}}, {frac{3, 1}, [5]int64{3, 3, 3, 3, 3}}, {frac{-3, 1}, [5]int64{-3, -3, -3, -3, -3}},
		{frac{1, 2}, [5]int64{0, 1, 1, 0, 0}}, {frac{3, 2}, [5]int64{1, 2, 2, 1, 2}}, {frac{-3, 2}, [5]int64{-2, -1, -1, -2, -2}}, {frac{-7, 2}, [5]int64{-4, -3, -3, -4, -4}},
		{frac{-1, 3}, [5]int64{-1, 0, 0, 0, 0}}, {frac{2, 3}, [5]int64{0, 1, 1, 1, 1}}, {frac{249, 100}, [5]int64{2, 3, 2, 2, 2}}, {frac{251, 100}, [5]int64{2, 3, 3, 3, 3}},
		{frac{349, 100}, [5]int64{3, 4, 3, 3, 3}}, {frac{351, 100}, [5]int64{3, 4, 4, 4, 4}}, {frac{-249, 100}, [5]int64{-3, -2, -2, -2, -2}}, {frac{-251, 100}, [5]int64{-3, -2, -3, -3, -3}},
		{frac{-349, 100}, [5]int64{-4, -3, -3, -3, -3}}, {frac{-351, 100}, [5]int64{-4, -3, -4, -4, -4}}, {frac{1, 1000000}, [5]int64{0, 1, 0, 0, 0}}, {frac{-1, 1000000}, [5]int64{-1, 0, 0, 0, 0}},
		{frac{999999, 1000000}, [5]int64{0, 1, 1, 1, 1}}, {frac{-999999, 1000000}, [5]int64{-1, 0, -1, -1, -1}},
	}
}

// The plain ways are themselves held against what anyone knows.
func TestPlain(t *testing.T) {
	for _, row := range table() {
		for i, m := range modes() {
			if n := plainTo(row.f, m); n != row.want[i] {
				t.Errorf("plainTo(%v, %d) is %d, want %d", row.f, m, n, row.want[i])
			}
			if n := longTo(t, whole.Small(row.f.num), whole.Small(row.f.den), m); whole.Compare(n, whole.Small(row.want[i])) != 0 {
				t.Errorf("longTo(%v, %d) is %s, want %d", row.f, m, whole.Text(n), row.want[i])
			}
		}
	}
	if r, e := longUnits(t, ratio(t, 1, 1), ratio(t, 2, 3), api.ModeEven); !same(r, ratio(t, 4, 3)) || e != api.OK {
		t.Error("longUnits")
	}
	if r, e := longUnits(t, wholeRat(t, two(t, end, -1)), ratio(t, 2, 1), api.ModeCeil); r.Sign() != 0 || e != api.ErrLong {
		t.Error("longUnits of what is too long")
	}
}
