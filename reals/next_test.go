package reals_test

import (
	"math"
	"testing"

	"tollbook/api"
	"tollbook/reals"
)

func wantNext(t *testing.T, x float64, up bool, want float64) {
	t.Helper()
	if n, e := reals.Next(x, up); !alike(n, want) || e != api.OK {
		t.Errorf("Next(%g, %t) is %g, error %d, want %g", x, up, n, e, want)
	}
}

// P8.5: the chapter's examples, and the same the other way up.
func TestNextExamples(t *testing.T) {
	wantNext(t, 1, true, 1+0x1p-52)
	wantNext(t, 1, false, 1-0x1p-53)
	wantNext(t, -1, true, -1+0x1p-53)
	wantNext(t, -1, false, -1-0x1p-52)
	for _, nought := range []float64{0, minusNought()} {
		wantNext(t, nought, true, least)
		wantNext(t, nought, false, -least)
	}
	wantNext(t, least, false, 0)
	wantNext(t, least, true, 2*least)
	wantNext(t, -least, true, minusNought())
	wantNext(t, -least, false, -2*least)
	wantNext(t, 0x1p-1022, false, 0x1p-1022-least)
	wantNext(t, 0x1p-1022-least, true, 0x1p-1022)
	wantNext(t, 0x1p-1022, true, 0x1p-1022+least)
	wantNext(t, -0x1p-1022, true, -0x1p-1022+least)
}

// P8.5: Max and the infinities, which have none behind them.
func TestNextAtTheEnds(t *testing.T) {
	wantNext(t, most, true, inf())
	wantNext(t, most, false, 0x1p1024-0x1p972)
	wantNext(t, -most, false, -inf())
	wantNext(t, -most, true, -0x1p1024+0x1p972)
	wantNext(t, inf(), true, inf())
	wantNext(t, inf(), false, most)
	wantNext(t, -inf(), true, -most)
	wantNext(t, -inf(), false, -inf())
}

// P8.5: powers of two, below which floats lie half as far apart.
func TestNextOfPowers(t *testing.T) {
	for n := -1021; n <= 1023; n++ {
		x, step := math.Ldexp(1, n), math.Ldexp(1, n-52)
		below := x - step/2
		if n == -1021 {
			below = x - least
		}
		wantNext(t, x, true, x+step)
		wantNext(t, x, false, below)
		wantNext(t, -x, false, -x-step)
		wantNext(t, -x, true, -below)
		wantNext(t, below, true, x)
		wantNext(t, -below, false, -x)
	}
}

// P8.5: floats of all kinds, as the library has it, and as they are ranked.
func TestNextOfFloats(t *testing.T) {
	for _, x := range someFloats() {
		wantNext(t, x, true, math.Nextafter(x, inf()))
		wantNext(t, x, false, math.Nextafter(x, -inf()))
	}
	for _, rank := range someRanks() {
		wantNext(t, floatAt(rank), true, floatAt(rank+1))
		wantNext(t, floatAt(rank+1), false, floatAt(rank))
		if rank > 0 {
			wantNext(t, floatAt(-rank), false, floatAt(-rank-1))
			wantNext(t, floatAt(-rank-1), true, floatAt(-rank))
		}
	}
}

// P8.5: NaN has no neighbour.
func TestNextRefuses(t *testing.T) {
	for _, x := range nans() {
		for _, up := range []bool{true, false} {
			if n, e := reals.Next(x, up); !alike(n, 0) || e != api.ErrReal {
				t.Errorf("Next(%g, %t) is %g, error %d", x, up, n, e)
			}
		}
	}
}
