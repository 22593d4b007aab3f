package reals_test

import (
	"math"
	"slices"
	"testing"

	"tollbook/api"
	"tollbook/rat"
	"tollbook/reals"
)

// manyRats are small and long ones, and those at floats and between two.
func manyRats(t *testing.T) []rat.Rat {
	t.Helper()
	rats := longRats(t)
	for _, f := range someFracs() {
		rats = append(rats, ratio(t, f[0], f[1]))
	}
	for _, rank := range someRanks() {
		at, middle := exactly(t, floatAt(rank)), middleOf(t, floatAt(rank), floatAt(rank+1))
		third := plus(t, at, times(t, less(t, middle, at), ratio(t, 2, 3)))
		rats = append(rats, at, middle, third, at.Neg(), middle.Neg(), third.Neg())
	}
	return rats
}

// P8.6: of a float's number all calls tell the float, but that -0 becomes +0.
func TestThereAndBack(t *testing.T) {
	for _, x := range someFloats() {
		if math.IsInf(x, 0) {
			continue
		}
		r, e := reals.Of(x)
		wantOK(t, e, "Of")
		wantFloats(t, r, floats{x + 0, x + 0, x + 0})
	}
}

// wantOrder asks whether x is not on the wrong side of r, by the chapter's
// Compare; wrong is 1 for what is not above, -1 for what is not below.
func wantOrder(t *testing.T, x float64, r rat.Rat, wrong int, what string) {
	t.Helper()
	if c, e := reals.Compare(x, r); e != api.OK || c == wrong {
		t.Errorf("%s of %s is %g: on the wrong side", what, told(r), x)
	}
}

// P8.6: Floor is not above, Ceil not below, unlike ones are neighbours, and
// Nearest is one of them.
func TestFloorAndCeil(t *testing.T) {
	t.Parallel()
	for _, r := range manyRats(t) {
		low, high, near := reals.Floor(r), reals.Ceil(r), reals.Nearest(r)
		wantOrder(t, low, r, 1, "Floor")
		wantOrder(t, high, r, -1, "Ceil")
		if math.IsInf(low, 1) || math.IsInf(high, -1) || near != low && near != high {
			t.Errorf("of %s the floats are %g, %g, %g", told(r), low, high, near)
		}
		if alike(low, minusNought()) || alike(high, minusNought()) {
			t.Errorf("of %s -0 is told", told(r))
		}
		exact, ok := reals.Exact(r)
		if ok != (low == high) || ok && !alike(exact, low) {
			t.Errorf("of %s the float is %g, %t", told(r), exact, ok)
		}
		if low != high {
			wantNext(t, low, true, signedLike(high, low))
			wantNext(t, high, false, signedLike(low, high))
		}
	}
}

// signedLike is x, and of 0 -0, if it is told of a float that is below 0.
func signedLike(x, from float64) float64 {
	if x == 0 && from < 0 {
		return minusNought()
	}
	return x
}

// P8.6: no float is nearer: none of the next ones, so none at all. What lies
// beyond all floats has infinities, which are not asked.
func TestNoneIsNearer(t *testing.T) {
	t.Parallel()
	for _, r := range manyRats(t) {
		near := reals.Nearest(r)
		if math.IsInf(near, 0) {
			continue
		}
		rank := rankOf(near)
		for _, other := range []float64{floatAt(rank - 1), floatAt(rank + 1)} {
			if math.IsInf(other, 0) {
				continue
			}
			middle := times(t, plus(t, exactly(t, near), exactly(t, other)), ratio(t, 1, 2))
			if c := rat.Compare(r, middle); c != 0 && (c > 0) == (other > near) {
				t.Errorf("Nearest(%s) is %g, but %g is nearer", told(r), near, other)
			}
		}
	}
}

// P8.6: what is not above is not rounded above.
func TestNeverFalls(t *testing.T) {
	t.Parallel()
	rats := manyRats(t)
	slices.SortFunc(rats, rat.Compare)
	for i, r := range rats[1:] {
		last := rats[i]
		if reals.Nearest(last) > reals.Nearest(r) || reals.Floor(last) > reals.Floor(r) || reals.Ceil(last) > reals.Ceil(r) {
			t.Errorf("from %s to %s the floats fall", told(last), told(r))
		}
	}
}

// P8.6: up and then down is the same number again, but of +inf; down and then
// up, but of -inf.
func TestUpAndDown(t *testing.T) {
	for _, x := range someFloats() {
		up, e := reals.Next(x, true)
		wantOK(t, e, "Next")
		back, e := reals.Next(up, false)
		wantOK(t, e, "Next")
		if want := min(x, most); back != want {
			t.Errorf("from %g up and down is %g", x, back)
		}
		down, e := reals.Next(x, false)
		wantOK(t, e, "Next")
		back, e = reals.Next(down, true)
		wantOK(t, e, "Next")
		if want := max(x, -most); back != want {
			t.Errorf("from %g down and up is %g", x, back)
		}
		if !math.IsInf(x, 0) && !(down < x && x < up) {
			t.Errorf("beside %g lie %g and %g", x, down, up)
		}
	}
}

// P8.6: Int64 is the whole number that Of tells.
func TestInt64IsOf(t *testing.T) {
	for _, x := range someFloats() {
		r, e := reals.Of(x)
		n, err := r.Num().Int64()
		if one, _ := r.Den().Uint64(); one != 1 || e != api.OK {
			n, err = 0, api.ErrReal
		}
		wantInt64(t, x, n, err)
	}
}
