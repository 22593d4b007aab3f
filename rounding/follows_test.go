package rounding_test

import (
	"slices"
	"testing"

	"tollbook/api"
	"tollbook/rat"
	"tollbook/whole"
)

// allRats are small, middle and long ones.
func allRats(t *testing.T) []rat.Rat {
	t.Helper()
	rats := append(middleRats(t), longRats(t)...)
	for _, f := range someFracs() {
		rats = append(rats, ratio(t, f.num, f.den))
	}
	return rats
}

// P7.6: a whole number is rounded to itself.
func TestWholeStays(t *testing.T) {
	for _, i := range []whole.Int{{}, whole.Small(1), whole.Small(-1), whole.Small(2), whole.Small(maxInt), whole.Small(minInt), two(t, 64, 0), two(t, 64, -1).Neg(), two(t, 1000, 7), two(t, end-1, 0), two(t, end, -1), two(t, end, -1).Neg()} {
		for _, m := range modes() {
			wantTo(t, wholeRat(t, i), m, i)
		}
	}
}

// P7.6: less than 1 away, and at most a half by the modes of the nearest; all
// times the denominator, so that it is whole.
func TestNear(t *testing.T) {
	t.Parallel()
	for _, r := range allRats(t) {
		for _, m := range modes() {
			far := sum(t, product(t, to(t, r, m), denOf(r)), r.Num().Neg())
			if whole.Compare(whole.New(false, far.Abs()), denOf(r)) >= 0 {
				t.Errorf("%s by mode %d lies 1 or more away", told(r), m)
			}
			twice := product(t, whole.Small(2), whole.New(false, far.Abs()))
			if m >= api.ModeUp && whole.Compare(twice, denOf(r)) > 0 {
				t.Errorf("%s by mode %d lies more than a half away", told(r), m)
			}
		}
	}
}

// P7.6: of two numbers the greater one is never rounded to the lesser one.
func TestNeverFalls(t *testing.T) {
	t.Parallel()
	rats := allRats(t)
	slices.SortFunc(rats, rat.Compare)
	for _, m := range modes() {
		last := to(t, rats[0], m)
		for _, r := range rats[1:] {
			next := to(t, r, m)
			if whole.Compare(last, next) > 0 {
				t.Errorf("up to %s mode %d falls", told(r), m)
			}
			last = next
		}
	}
}

// P7.6: with n more it is n more, by ModeEven with an even n.
func TestWithMore(t *testing.T) {
	t.Parallel()
	rats := middleRats(t)
	for _, f := range someFracs() {
		rats = append(rats, ratio(t, f.num, f.den))
	}
	for _, more := range []whole.Int{whole.Small(1), whole.Small(-1), whole.Small(7), whole.Small(2), whole.Small(-12), whole.Small(minInt), two(t, 64, 1), two(t, 200, 0).Neg(), two(t, 5000, 0), two(t, 5000, -1)} {
		for _, r := range rats {
			for _, m := range modes() {
				if m != api.ModeEven || isEven(more) {
					wantTo(t, plus(t, r, wholeRat(t, more)), m, sum(t, to(t, r, m), more))
				}
			}
		}
	}
	// By ModeEven an odd n does not do: 1/2 goes to 0, 3/2 to 2.
	wantTo(t, ratio(t, 1, 2), api.ModeEven, whole.Small(0))
	wantTo(t, ratio(t, 3, 2), api.ModeEven, whole.Small(2))
}

// P7.6: the other way up floors are ceilings, halves up halves down.
func TestOtherWayUp(t *testing.T) {
	t.Parallel()
	turned := [5]api.Mode{api.ModeCeil, api.ModeFloor, api.ModeDown, api.ModeUp, api.ModeEven}
	for _, r := range allRats(t) {
		for i, m := range modes() {
			wantTo(t, r.Neg(), m, to(t, r, turned[i]).Neg())
		}
	}
}
