package rounding_test

import (
	"testing"

	"tollbook/api"
	"tollbook/rat"
	"tollbook/rounding"
	"tollbook/whole"
)

func wantUnits(t *testing.T, r, unit rat.Rat, m api.Mode, want rat.Rat, err api.Errno) {
	t.Helper()
	if got, e := rounding.Units(r, unit, m); e != err || !same(got, want) {
		t.Errorf("Units(%s, %s, %d) is %s, error %d, want %s, error %d", told(r), told(unit), m, told(got), e, told(want), err)
	}
}

// P7.3: the chapter's examples.
func TestUnitsExamples(t *testing.T) {
	for _, c := range []struct {
		r, unit, want frac
		m             api.Mode
	}{
		{frac{7, 1}, frac{5, 1}, frac{5, 1}, api.ModeUp}, {frac{15, 2}, frac{5, 1}, frac{10, 1}, api.ModeUp}, {frac{15, 2}, frac{5, 1}, frac{5, 1}, api.ModeDown},
		{frac{-1, 1}, frac{1, 4}, frac{-1, 1}, api.ModeFloor}, {frac{1, 1}, frac{2, 3}, frac{4, 3}, api.ModeEven},
		{frac{15, 2}, frac{5, 1}, frac{10, 1}, api.ModeEven}, {frac{25, 2}, frac{5, 1}, frac{10, 1}, api.ModeEven}, {frac{-15, 2}, frac{5, 1}, frac{-5, 1}, api.ModeUp}, {frac{-15, 2}, frac{5, 1}, frac{-10, 1}, api.ModeDown},
		{frac{1, 1}, frac{2, 3}, frac{2, 3}, api.ModeFloor}, {frac{1, 1}, frac{2, 3}, frac{2, 3}, api.ModeDown}, {frac{-1, 1}, frac{2, 3}, frac{-2, 3}, api.ModeUp}, {frac{-1, 1}, frac{2, 3}, frac{-4, 3}, api.ModeEven},
		{frac{0, 1}, frac{1, 7}, frac{0, 1}, api.ModeCeil}, {frac{1, 1000}, frac{100, 1}, frac{100, 1}, api.ModeCeil}, {frac{-1, 1000}, frac{100, 1}, frac{-100, 1}, api.ModeFloor},
	} {
		wantUnits(t, ratio(t, c.r.num, c.r.den), ratio(t, c.unit.num, c.unit.den), c.m, ratio(t, c.want.num, c.want.den), api.OK)
	}
}

// P7.3: units below 1, of 1 and above it, with small numbers: r over unit is
// r's num times unit's den over r's den times unit's num.
func TestUnitsSmall(t *testing.T) {
	for _, unit := range []frac{{1, 1}, {1, 2}, {1, 4}, {2, 3}, {3, 2}, {5, 1}, {7, 3}, {1, 100}, {12, 1}, {99, 100}, {101, 100}} {
		for i, f := range someFracs() {
			if i%3 != int(unit.den)%3 {
				continue
			}
			for _, m := range modes() {
				times := plainTo(frac{f.num * unit.den, f.den * unit.num}, m)
				wantUnits(t, ratio(t, f.num, f.den), ratio(t, unit.num, unit.den), m, ratio(t, times*unit.num, unit.den), api.OK)
			}
		}
	}
}

// P7.3: a unit of 1 is To.
func TestUnitsOfOne(t *testing.T) {
	t.Parallel()
	for _, r := range append(middleRats(t), longRats(t)...) {
		for _, m := range modes() {
			wantUnits(t, r, ratio(t, 1, 1), m, wholeRat(t, to(t, r, m)), api.OK)
		}
	}
}

// P7.3: what r over unit comes to has more than MaxRatio limbs, the answer has
// not.
func TestUnitsLongQuotient(t *testing.T) {
	top := two(t, end-1, 0)
	r, unit := wholeRat(t, top), over(t, whole.Small(1), top)
	greatest, least := wholeRat(t, two(t, end, -1)), over(t, whole.Small(1), two(t, end, -1))
	small := over(t, two(t, end, -1), two(t, end, -3))
	for _, m := range modes() {
		wantUnits(t, r, unit, m, r, api.OK)
		wantUnits(t, r.Neg(), unit, m, r.Neg(), api.OK)
		wantUnits(t, greatest, least, m, greatest, api.OK)
		wantUnits(t, greatest.Neg(), unit, m, greatest.Neg(), api.OK)
		wantUnits(t, small, over(t, whole.Small(1), two(t, end, -3)), m, small, api.OK)
		wantUnits(t, small.Neg(), over(t, two(t, end, -1), two(t, end, -3)), m, small.Neg(), api.OK)
	}
	// 7 does not divide 2^65536 - 3, so the answer is long as well.
	seventh := over(t, two(t, end, -3), whole.Small(7))
	for _, m := range modes() {
		wantUnits(t, seventh, unit, m, rat.Rat{}, api.ErrLong)
		wantUnits(t, seventh.Neg(), unit, m, rat.Rat{}, api.ErrLong)
	}
}

// P7.3: the quotient's denominator is what is long.
func TestUnitsTinyQuotient(t *testing.T) {
	greatest := wholeRat(t, two(t, end, -3))
	least := over(t, whole.Small(1), two(t, end, -1))
	none := rat.Rat{}
	for i, want := range []rat.Rat{none, greatest, none, none, none} {
		wantUnits(t, least, greatest, modes()[i], want, api.OK)
	}
	for i, want := range []rat.Rat{greatest.Neg(), none, none, none, none} {
		wantUnits(t, least.Neg(), greatest, modes()[i], want, api.OK)
	}
	for i, want := range []rat.Rat{none, greatest, greatest, none, none} {
		half, e := rat.Quo(greatest, ratio(t, 2, 1))
		wantOK(t, e, "rat.Quo")
		wantUnits(t, half, greatest, modes()[i], want, api.OK)
	}
}

// P7.3: the nearest number that 3 divides: 2^65535 is 2 more than one.
func TestUnitsOfThree(t *testing.T) {
	r, unit := wholeRat(t, two(t, end-1, 0)), ratio(t, 3, 1)
	above, below := wholeRat(t, two(t, end-1, 1)), wholeRat(t, two(t, end-1, -2))
	for i, want := range []rat.Rat{below, above, above, above, above} {
		wantUnits(t, r, unit, modes()[i], want, api.OK)
	}
	for i, want := range []rat.Rat{above.Neg(), below.Neg(), above.Neg(), above.Neg(), above.Neg()} {
		wantUnits(t, r.Neg(), unit, modes()[i], want, api.OK)
	}
}

// limit is a case at the limit of MaxRatio limbs: by each mode want over den,
// or, where it is long, nothing.
type limit struct {
	what    string
	r, unit rat.Rat
	want    [5]whole.Int
	den     whole.Int
	isLong  [5]bool
}

// P7.3: answers of just MaxRatio limbs, and of one more.
func TestUnitsAtTheLimit(t *testing.T) {
	one, none := whole.Small(1), whole.Int{}
	greatest, less := two(t, end, -1), two(t, end, -2)
	top, even := wholeRat(t, greatest), ratio(t, 2, 1)
	big := two(t, end-1, 1)
	for _, c := range []limit{
		{"the greatest, by twos", top, even, [5]whole.Int{less, none, none, less, none}, one, [5]bool{false, true, true, false, true}},
		{"the least, by twos", top.Neg(), even, [5]whole.Int{none, less.Neg(), less.Neg(), none, none}, one, [5]bool{true, false, false, true, true}},
		{"the greatest, by threes", top, ratio(t, 3, 1), [5]whole.Int{greatest, greatest, greatest, greatest, greatest}, one, [5]bool{}},
		{"the greatest, by fours", top, ratio(t, 4, 1), [5]whole.Int{two(t, end, -4), none, none, none, none}, one, [5]bool{false, true, true, true, true}},
		{"the greatest less 1, by fours", wholeRat(t, less), ratio(t, 4, 1), [5]whole.Int{two(t, end, -4), none, none, two(t, end, -4), none}, one, [5]bool{false, true, true, false, true}},
		{"the greatest less 2, by fours", wholeRat(t, two(t, end, -3)), ratio(t, 4, 1), [5]whole.Int{two(t, end, -4), none, two(t, end, -4), two(t, end, -4), two(t, end, -4)}, one, [5]bool{false, true, false, false, false}},
		{"nearly twice a unit", top, wholeRat(t, big), [5]whole.Int{big, none, none, none, none}, one, [5]bool{false, true, true, true, true}},
		{"less than one and a half of a unit", wholeRat(t, sum(t, big, two(t, end-2, 0))), wholeRat(t, big), [5]whole.Int{big, none, big, big, big}, one, [5]bool{false, true, false, false, false}},
		{"1, by the greatest", ratio(t, 1, 1), top, [5]whole.Int{none, greatest, none, none, none}, one, [5]bool{}},
		{"units of 1 over the greatest", over(t, one, greatest), over(t, one, greatest), [5]whole.Int{one, one, one, one, one}, greatest, [5]bool{}},
	} {
		t.Run(c.what, func(t *testing.T) {
			for i, m := range modes() {
				if c.isLong[i] {
					wantUnits(t, c.r, c.unit, m, rat.Rat{}, api.ErrLong)
					continue
				}
				wantUnits(t, c.r, c.unit, m, over(t, c.want[i], c.den), api.OK)
			}
		})
	}
}

// P7.3: the numerator is too long, or just not, for the unit's denominator.
func TestUnitsLongByDenominator(t *testing.T) {
	top := two(t, end, -1)
	asked := [2]int{}
	for _, den := range []int64{7, 11, 13, 19, 1 << 20} {
		r := over(t, top, whole.Small(den))
		for _, unit := range []frac{{1, den - 1}, {1, den + 1}, {2, den + 2}, {1, den}, {3, den * 2}, {1, 1 << 21}, {1, 3}} {
			for _, m := range modes() {
				u := ratio(t, unit.num, unit.den)
				for _, number := range []rat.Rat{r, r.Neg()} {
					want, e := longUnits(t, number, u, m)
					wantUnits(t, number, u, m, want, e)
					if e == api.OK {
						asked[0]++
					} else {
						asked[1]++
					}
				}
			}
		}
	}
	if min(asked[0], asked[1]) < 20 {
		t.Errorf("%d are not too long, %d are", asked[0], asked[1])
	}
}

// P7.3: numbers of a few limbs.
func TestUnitsMiddle(t *testing.T) {
	t.Parallel()
	for _, r := range middleRats(t) {
		for _, unit := range middleRats(t) {
			if unit.Sign() < 0 {
				unit = unit.Neg()
			}
			for _, m := range modes() {
				want, e := longUnits(t, r, unit, m)
				wantUnits(t, r, unit, m, want, e)
			}
		}
	}
}

// P7.3: numbers and units of 1024 limbs.
func TestUnitsLong(t *testing.T) {
	t.Parallel()
	long := longRats(t)
	for i, r := range long {
		for _, unit := range []rat.Rat{long[(i+5)%16], long[(3*i+1)%16], ratio(t, 1, 10), ratio(t, 1000003, 7)} {
			m := modes()[i%5]
			want, e := longUnits(t, r, unit, m)
			wantUnits(t, r, unit, m, want, e)
		}
	}
}

// P7.3: modes that are none, units that are not above 0; ErrArg comes ahead of
// ErrLong.
func TestUnitsRefuses(t *testing.T) {
	top := wholeRat(t, two(t, end, -1))
	for _, r := range []rat.Rat{{}, ratio(t, 1, 1), ratio(t, -7, 3), top, top.Neg()} {
		for _, unit := range []rat.Rat{ratio(t, 1, 1), ratio(t, 2, 1), ratio(t, 1, 3), over(t, two(t, end-1, 1), two(t, end-1, -1)), {}, ratio(t, -1, 1)} {
			for _, m := range wrongModes() {
				wantUnits(t, r, unit, m, rat.Rat{}, api.ErrArg)
			}
		}
		for _, unit := range []rat.Rat{{}, rat.Rat{}.Neg(), ratio(t, 0, -7), ratio(t, -1, 1), ratio(t, -2, 1), ratio(t, -1, maxInt), top.Neg(), over(t, whole.Small(-1), two(t, end, -1))} {
			for _, m := range modes() {
				wantUnits(t, r, unit, m, rat.Rat{}, api.ErrArg)
			}
		}
	}
}
