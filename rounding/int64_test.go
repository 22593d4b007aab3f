package rounding_test

import (
	"testing"

	"tollbook/api"
	"tollbook/rat"
	"tollbook/rounding"
	"tollbook/whole"
)

// outcome is a number, or that there is none of 64 bits.
type outcome struct {
	n int64
	e api.Errno
}

func wantInt64(t *testing.T, r rat.Rat, m api.Mode, want outcome) {
	t.Helper()
	if n, e := rounding.Int64(r, m); n != want.n || e != want.e {
		t.Errorf("Int64(%s, %d) is %d, error %d, want %d, error %d", told(r), m, n, e, want.n, want.e)
	}
}

// P7.5: all small numbers.
func TestInt64Small(t *testing.T) {
	for _, f := range someFracs() {
		for _, m := range modes() {
			wantInt64(t, ratio(t, f.num, f.den), m, outcome{n: plainTo(f, m)})
		}
	}
	for _, m := range modes() {
		wantInt64(t, rat.Rat{}, m, outcome{})
	}
}

// P7.5: both ends of 64 bits and around them, where the rounding alone decides
// too. More is how far beyond 2^63, or -2^63, a number lies.
func TestInt64AtTheEnds(t *testing.T) {
	over := outcome{e: api.ErrOver}
	top, below, third := outcome{n: maxInt}, outcome{n: maxInt - 1}, outcome{n: maxInt - 2}
	bottom, next, after := outcome{n: minInt}, outcome{n: minInt + 1}, outcome{n: minInt + 2}
	high, low := two(t, 63, 0), two(t, 63, 0).Neg()
	for _, c := range []struct {
		near whole.Int
		more frac
		want [5]outcome
	}{
		{high, frac{-1, 2}, [5]outcome{top, over, over, top, over}}, {high, frac{-3, 2}, [5]outcome{below, top, top, below, below}}, {high, frac{-5, 2}, [5]outcome{third, below, below, third, below}},
		{high, frac{-1, 3}, [5]outcome{top, over, over, over, over}}, {high, frac{-2, 3}, [5]outcome{top, over, top, top, top}}, {high, frac{-499, 1000}, [5]outcome{top, over, over, over, over}}, {high, frac{-501, 1000}, [5]outcome{top, over, top, top, top}},
		{high, frac{-1, 1}, [5]outcome{top, top, top, top, top}}, {high, frac{0, 1}, [5]outcome{over, over, over, over, over}}, {high, frac{1, 2}, [5]outcome{over, over, over, over, over}}, {high, frac{-4, 3}, [5]outcome{below, top, top, top, top}},
		{low, frac{-1, 2}, [5]outcome{over, bottom, bottom, over, bottom}}, {low, frac{-1, 3}, [5]outcome{over, bottom, bottom, bottom, bottom}}, {low, frac{-2, 3}, [5]outcome{over, bottom, over, over, over}},
		{low, frac{-499, 1000}, [5]outcome{over, bottom, bottom, bottom, bottom}}, {low, frac{-501, 1000}, [5]outcome{over, bottom, over, over, over}}, {low, frac{-1, 1}, [5]outcome{over, over, over, over, over}}, {low, frac{-3, 2}, [5]outcome{over, over, over, over, over}},
		{low, frac{0, 1}, [5]outcome{bottom, bottom, bottom, bottom, bottom}}, {low, frac{1, 2}, [5]outcome{bottom, next, next, bottom, bottom}}, {low, frac{3, 2}, [5]outcome{next, after, after, next, after}}, {low, frac{2, 3}, [5]outcome{bottom, next, next, next, next}},
	} {
		for i, m := range modes() {
			wantInt64(t, plus(t, wholeRat(t, c.near), ratio(t, c.more.num, c.more.den)), m, c.want[i])
		}
	}
}

// P7.5: as near to the ends as a ratio can be.
func TestInt64JustBeside(t *testing.T) {
	over64, top, bottom := outcome{e: api.ErrOver}, outcome{n: maxInt}, outcome{n: minInt}
	little := over(t, whole.Small(1), two(t, end-100, 1))
	high, low := wholeRat(t, two(t, 63, 0)), wholeRat(t, two(t, 63, 0).Neg())
	half := ratio(t, -1, 2)
	for _, c := range []struct {
		r    rat.Rat
		want [5]outcome
	}{
		{plus(t, high, little.Neg()), [5]outcome{top, over64, over64, over64, over64}},
		{plus(t, high, half, little), [5]outcome{top, over64, over64, over64, over64}},
		{plus(t, high, half, little.Neg()), [5]outcome{top, over64, top, top, top}},
		{plus(t, low, little.Neg()), [5]outcome{over64, bottom, bottom, bottom, bottom}},
		{plus(t, low, half, little), [5]outcome{over64, bottom, bottom, bottom, bottom}},
		{plus(t, low, half, little.Neg()), [5]outcome{over64, bottom, over64, over64, over64}},
	} {
		for i, m := range modes() {
			wantInt64(t, c.r, m, c.want[i])
		}
	}
}

// P7.5: numbers far beyond 64 bits; 2^64 and its like are none of 64 bits.
func TestInt64Over(t *testing.T) {
	for _, m := range modes() {
		for _, i := range []whole.Int{two(t, 64, -1), two(t, 64, 0), two(t, 64, 1), two(t, 128, 5), two(t, end, -1)} {
			wantInt64(t, wholeRat(t, i), m, outcome{e: api.ErrOver})
			wantInt64(t, wholeRat(t, i.Neg()), m, outcome{e: api.ErrOver})
			wantInt64(t, over(t, i, sum(t, i, whole.Small(-1))), m, outcome{n: plainTo(frac{1001, 1000}, m)})
		}
	}
}

// P7.5: long ratios; what To answers is told, if it is of 64 bits.
func TestInt64Long(t *testing.T) {
	t.Parallel()
	for _, r := range append(middleRats(t), longRats(t)...) {
		for _, m := range modes() {
			n, e := longTo(t, r.Num(), denOf(r), m).Int64()
			wantInt64(t, r, m, outcome{n, e})
		}
	}
}

// P7.5: ErrArg comes ahead of ErrOver, and nothing beside it.
func TestInt64Refuses(t *testing.T) {
	for _, m := range wrongModes() {
		for _, r := range []rat.Rat{{}, ratio(t, 5, 2), ratio(t, maxInt, 1), ratio(t, minInt, 1), wholeRat(t, two(t, 63, 0)), wholeRat(t, two(t, 63, 1).Neg()), wholeRat(t, two(t, end, -1))} {
			wantInt64(t, r, m, outcome{e: api.ErrArg})
		}
	}
}
