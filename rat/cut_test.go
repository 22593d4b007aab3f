package rat_test

import (
	"testing"

	"tollbook/api"
	"tollbook/rat"
	"tollbook/whole"
)

// floorOf counts down from far above: the first number that is not above it.
func floorOf(f frac) int64 {
	floor := int64(2000)
	for floor*f.den > f.num {
		floor--
	}
	return floor
}

// P5.5: small numbers, on both sides of 0 and of whole numbers.
func TestCut(t *testing.T) {
	for _, f := range someFracs() {
		r, low := of(t, f), floorOf(f)
		high := low
		if low*f.den != f.num {
			high++
		}
		if whole.Compare(rat.Floor(r), whole.Small(low)) != 0 || whole.Compare(rat.Ceil(r), whole.Small(high)) != 0 {
			t.Errorf("%d/%d: Floor %s, Ceil %s, want %d, %d", f.num, f.den, whole.Text(rat.Floor(r)), whole.Text(rat.Ceil(r)), low, high)
		}
		wantFrac(t, rat.Frac(r), frac{f.num - low*f.den, f.den}, "Frac")
	}
}

// wantCut asks for the whole number low and what lies above it, rest over den,
// in lowest terms.
func wantCut(t *testing.T, low, rest, den whole.Int) {
	t.Helper()
	r, e := rat.New(sum(t, product(t, low, den), rest), den)
	wantOK(t, e, "New")
	high := low
	if rest.Sign() != 0 {
		high = sum(t, low, whole.Small(1))
	}
	if whole.Compare(rat.Floor(r), low) != 0 || whole.Compare(rat.Ceil(r), high) != 0 {
		t.Errorf("Floor or Ceil of a number of %d limbs", r.Long())
	}
	wantTold(t, rat.Frac(r), rest, den.Abs(), "Frac")
}

// P5.5: long numbers, just at whole numbers and just beside them.
func TestCutLong(t *testing.T) {
	t.Parallel()
	x := mixed(11)
	unit, none := whole.Small(1), whole.Int{}
	for _, den := range []whole.Int{whole.Small(2), whole.Small(10), number(t, false, m), number(t, false, 0, 1), two(t, end/2, 0), two(t, end/2, -1), number(t, false, x.list(300)...)} {
		last := sum(t, den, whole.Small(-1))
		for _, low := range []whole.Int{none, unit, whole.Small(-1), whole.Small(-2), whole.Small(minInt), two(t, end/2-64, 1), two(t, end/2-64, 0).Neg(), number(t, false, x.list(500)...), number(t, true, x.list(500)...)} {
			wantCut(t, low, none, unit)
			wantCut(t, low, unit, den)
			wantCut(t, low, last, den)
		}
	}
	for _, low := range []whole.Int{two(t, end, -1), two(t, end, -1).Neg(), two(t, end-64, 0), number(t, true, x.list(most)...)} {
		wantCut(t, low, none, unit)
	}
	longest := two(t, end, -1)
	for _, low := range []whole.Int{none, whole.Small(-1)} {
		wantCut(t, low, unit, longest)
		wantCut(t, low, two(t, end, -2), longest)
	}
	// As far from 0 as can be with a fraction: its whole numbers are one bit shorter.
	wantCut(t, two(t, end-1, -1), unit, whole.Small(2))
	wantCut(t, two(t, end-1, 0).Neg(), unit, whole.Small(2))
}

// P5.5, P5.7: a number is its floor and its Frac, which lies from 0 on below 1.
func TestFracAndFloor(t *testing.T) {
	t.Parallel()
	one := of(t, frac{1, 1})
	for _, r := range append(someRats(t), longRats(t)...) {
		part := rat.Frac(r)
		wantNormal(t, part, "Frac")
		if part.Sign() < 0 || rat.Compare(part, one) >= 0 {
			t.Error("Frac lies beyond 0 and 1")
		}
		low, e := rat.Whole(rat.Floor(r))
		wantOK(t, e, "Whole of Floor")
		back, e := rat.Add(low, part)
		wantOK(t, e, "Floor + Frac")
		wantSame(t, back, r, "Floor + Frac")
		high, e := rat.Whole(rat.Ceil(r))
		if e != api.OK || rat.Compare(r, high) > 0 || rat.Compare(low, r) > 0 {
			t.Error("Floor or Ceil lies on the wrong side")
		}
		if less, e := rat.Sub(high, one); e != api.OK || rat.Compare(less, r) >= 0 {
			t.Error("Ceil is not the least")
		}
	}
}
