package reals_test

import (
	"math"
	"testing"

	"tollbook/api"
	"tollbook/rat"
	"tollbook/reals"
	"tollbook/whole"
)

func wantOf(t *testing.T, x float64, want rat.Rat) {
	t.Helper()
	if r, e := reals.Of(x); e != api.OK || !same(r, want) {
		t.Errorf("Of(%g) is %s, error %d, want %s", x, told(r), e, told(want))
	}
}

// P8.1: the chapter's examples, and more of their kind.
func TestOfExamples(t *testing.T) {
	wantOf(t, 0.5, ratio(t, 1, 2))
	wantOf(t, 0.1, ratio(t, 3602879701896397, 36028797018963968))
	wantOf(t, -0.1, ratio(t, -3602879701896397, 36028797018963968))
	wantOf(t, 0, rat.Rat{})
	wantOf(t, minusNought(), rat.Rat{})
	wantOf(t, 1e22, over(t, number(t, false, 0x19e0c9bab2400000, 0x21e), whole.Small(1)))
	wantOf(t, 0.2, ratio(t, 3602879701896397, 1<<54))
	wantOf(t, -1.0/3, ratio(t, -6004799503160661, 1<<54))
}

// P8.1: the edges of what a float is.
func TestOfEdges(t *testing.T) {
	for _, sign := range []float64{1, -1} {
		by := ratio(t, int64(sign), 1)
		wantOf(t, sign*least, times(t, by, twoTo(t, -1074)))
		wantOf(t, sign*2*least, times(t, by, twoTo(t, -1073)))
		wantOf(t, sign*3*least, times(t, by, plus(t, twoTo(t, -1074), twoTo(t, -1073))))
		wantOf(t, sign*0x1p-1023, times(t, by, twoTo(t, -1023)))
		wantOf(t, sign*(0x1p-1022-least), times(t, by, less(t, twoTo(t, -1022), twoTo(t, -1074))))
		wantOf(t, sign*0x1p-1022, times(t, by, twoTo(t, -1022)))
		wantOf(t, sign*(0x1p-1022+least), times(t, by, plus(t, twoTo(t, -1022), twoTo(t, -1074))))
		wantOf(t, sign*most, times(t, by, less(t, twoTo(t, 1024), twoTo(t, 971))))
		for n := -1074; n <= 1023; n++ {
			wantOf(t, math.Ldexp(sign, n), times(t, by, twoTo(t, n)))
		}
	}
}

// P8.1: floats of all kinds.
func TestOfFloats(t *testing.T) {
	for _, x := range someFloats() {
		if !math.IsInf(x, 0) {
			wantOf(t, x, exactly(t, x))
		}
	}
	for n := int64(-2000); n <= 2000; n++ {
		wantOf(t, float64(n), ratio(t, n, 1))
		wantOf(t, float64(n)/64, ratio(t, n, 64))
	}
}

// P8.1: what is no number.
func TestOfRefuses(t *testing.T) {
	for _, x := range append(nans(), inf(), -inf()) {
		if r, e := reals.Of(x); e != api.ErrReal || !same(r, rat.Rat{}) {
			t.Errorf("Of(%g) is %s, error %d", x, told(r), e)
		}
	}
}

func wantInt64(t *testing.T, x float64, want int64, err api.Errno) {
	t.Helper()
	if n, e := reals.Int64(x); n != want || e != err {
		t.Errorf("Int64(%g) is %d, error %d, want %d, error %d", x, n, e, want, err)
	}
}

// P8.1: whole numbers, up to both ends of 64 bits.
func TestInt64(t *testing.T) {
	wantInt64(t, 0, 0, api.OK)
	wantInt64(t, minusNought(), 0, api.OK)
	for n := int64(-3000); n <= 3000; n++ {
		wantInt64(t, float64(n), n, api.OK)
	}
	for shift := range 63 {
		for _, n := range []int64{1 << shift, 3 << shift >> 1, -1 << shift} {
			if int64(float64(n)) == n {
				wantInt64(t, float64(n), n, api.OK)
			}
		}
	}
	for _, n := range []int64{1<<53 - 1, 1 << 53, 1<<53 + 2, 1<<62 - 512, 1 << 62, 1<<62 + 1024, maxInt - 1023, maxInt - 2047, minInt, minInt + 1024, minInt + 2048} {
		wantInt64(t, float64(n), n, api.OK)
		if n != minInt {
			wantInt64(t, -float64(n), -n, api.OK)
		}
	}
	x := mixed(5)
	for range 500 {
		n := int64(x.next()) >> (x.next() % 64) &^ 0x3ff
		wantInt64(t, float64(n), n, api.OK)
	}
}

// P8.1: beyond 64 bits, and the last ones that are not.
func TestInt64Over(t *testing.T) {
	for _, x := range []float64{1 << 63, 1<<63 + 2048, 1 << 64, 1<<64 + 4096, 1 << 65, 1 << 100, 1e19, 1e300, 0x1p1023, most} {
		wantInt64(t, x, 0, api.ErrOver)
		if x != 1<<63 {
			wantInt64(t, -x, 0, api.ErrOver)
		}
	}
	wantInt64(t, math.Nextafter(1<<63, 0), 1<<63-1024, api.OK)
	wantInt64(t, -1<<63, minInt, api.OK)
	wantInt64(t, math.Nextafter(-1<<63, -inf()), 0, api.ErrOver)
}

// P8.1: what is no whole number; infinities are none, and not beyond 64 bits.
func TestInt64Refuses(t *testing.T) {
	wrong := append(nans(), inf(), -inf())
	for _, x := range []float64{0.5, 1.5, 0.1, 1.0 / 3, least, 2 * least, 0x1p-1022, 0x1p-1, 0x1p-53, 1<<52 - 0.5, 1<<51 + 0.5, 1<<51 - 0.25, math.Nextafter(1, 0), math.Nextafter(1, 2), 1<<31 + 0x1p-21, 1e15 + 0.125, 4503599627370495.5} {
		wrong = append(wrong, x, -x)
	}
	for _, x := range wrong {
		wantInt64(t, x, 0, api.ErrReal)
	}
}
