package rounding_test

import (
	"testing"

	"tollbook/api"
	"tollbook/nat"
	"tollbook/rat"
	"tollbook/rounding"
	"tollbook/whole"
)

func wantTo(t *testing.T, r rat.Rat, m api.Mode, want whole.Int) {
	t.Helper()
	if n, e := rounding.To(r, m); e != api.OK || whole.Compare(n, want) != 0 {
		t.Errorf("To(%s, %d) is %s, error %d, want %s", told(r), m, told(wholeRat(t, n)), e, told(wholeRat(t, want)))
	}
}

// P7.2: the chapter's table, and more rows of its kind.
func TestToTable(t *testing.T) {
	for _, row := range table() {
		for i, m := range modes() {
			wantTo(t, ratio(t, row.f.num, row.f.den), m, whole.Small(row.want[i]))
		}
	}
}

// P7.2: all small numbers.
func TestToSmall(t *testing.T) {
	for _, f := range someFracs() {
		for _, m := range modes() {
			wantTo(t, ratio(t, f.num, f.den), m, whole.Small(plainTo(f, m)))
		}
	}
}

// P7.2: the zero value is 0.
func TestToZeroValue(t *testing.T) {
	for _, m := range modes() {
		wantTo(t, rat.Rat{}, m, whole.Int{})
		wantTo(t, rat.Rat{}.Neg(), m, whole.Int{})
		if n := to(t, rat.Rat{}, m); n.Sign() != 0 || !n.Abs().IsZero() {
			t.Errorf("0 by mode %d has the sign %d", m, n.Sign())
		}
	}
}

// P7.2: what is rounded to 0 from below has no sign.
func TestToNoughtFromBelow(t *testing.T) {
	for _, f := range []frac{{-1, 2}, {-1, 3}, {-1, 1000}} {
		for _, m := range []api.Mode{api.ModeCeil, api.ModeUp, api.ModeEven} {
			if n := to(t, ratio(t, f.num, f.den), m); n.Sign() != 0 || n.Neg().Sign() != 0 {
				t.Errorf("%v by mode %d has the sign %d", f, m, n.Sign())
			}
		}
	}
}

// P7.2: numbers of a few limbs, and of 1024.
func TestToLong(t *testing.T) {
	t.Parallel()
	for _, r := range append(middleRats(t), longRats(t)...) {
		for _, m := range modes() {
			wantTo(t, r, m, longTo(t, r.Num(), denOf(r), m))
		}
	}
}

// P7.2: 2^65535 - 1/2, with an odd number below it; 2^65535 - 3/2, with an even
// one; and numbers just beside 1/2.
func TestToLongMiddle(t *testing.T) {
	for _, c := range []struct {
		num, den whole.Int
		want     [5]whole.Int
	}{
		{two(t, end, -1), whole.Small(2), [5]whole.Int{two(t, end-1, -1), two(t, end-1, 0), two(t, end-1, 0), two(t, end-1, -1), two(t, end-1, 0)}},
		{two(t, end, -3), whole.Small(2), [5]whole.Int{two(t, end-1, -2), two(t, end-1, -1), two(t, end-1, -1), two(t, end-1, -2), two(t, end-1, -2)}},
		{two(t, end, -1).Neg(), whole.Small(2), [5]whole.Int{two(t, end-1, 0).Neg(), two(t, end-1, -1).Neg(), two(t, end-1, -1).Neg(), two(t, end-1, 0).Neg(), two(t, end-1, 0).Neg()}},
		{two(t, end-1, 0), two(t, end, -1), [5]whole.Int{{}, whole.Small(1), whole.Small(1), whole.Small(1), whole.Small(1)}},
		{two(t, end-1, -1), two(t, end, -1), [5]whole.Int{{}, whole.Small(1), {}, {}, {}}},
		{two(t, end-1, 0).Neg(), two(t, end, -1), [5]whole.Int{whole.Small(-1), {}, whole.Small(-1), whole.Small(-1), whole.Small(-1)}},
		{two(t, end-1, -1).Neg(), two(t, end, -1), [5]whole.Int{whole.Small(-1), {}, {}, {}, {}}},
		{two(t, end-2, 0), two(t, end-1, 0), [5]whole.Int{{}, whole.Small(1), whole.Small(1), {}, {}}},
		{two(t, end, -1), two(t, end, -2), [5]whole.Int{whole.Small(1), whole.Small(2), whole.Small(1), whole.Small(1), whole.Small(1)}},
	} {
		for i, m := range modes() {
			wantTo(t, over(t, c.num, c.den), m, c.want[i])
		}
	}
}

// P7.2: a mode that is none is refused, whatever the number is.
func TestToRefuses(t *testing.T) {
	for _, m := range wrongModes() {
		for _, r := range []rat.Rat{{}, ratio(t, 1, 2), ratio(t, -7, 3), ratio(t, 4, 1), wholeRat(t, two(t, end, -1)), over(t, whole.Small(-1), two(t, end, -1))} {
			if n, e := rounding.To(r, m); e != api.ErrArg || n.Sign() != 0 || nat.Compare(n.Abs(), nat.Small(0)) != 0 {
				t.Errorf("To(%s, %d): error %d, sign %d", told(r), m, e, n.Sign())
			}
		}
	}
}
