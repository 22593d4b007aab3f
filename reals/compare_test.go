package reals_test

import (
	"math"
	"slices"
	"testing"

	"tollbook/api"
	"tollbook/rat"
	"tollbook/reals"
	"tollbook/whole"
)

func wantCompare(t *testing.T, x float64, r rat.Rat, want int, err api.Errno) {
	t.Helper()
	if c, e := reals.Compare(x, r); c != want || e != err {
		t.Errorf("Compare(%g, %s) is %d, error %d, want %d, error %d", x, told(r), c, e, want, err)
	}
}

// P8.4: the chapter's examples, and more of their kind.
func TestCompareExamples(t *testing.T) {
	for _, c := range []struct {
		x    float64
		r    rat.Rat
		want int
	}{
		{0.1, ratio(t, 1, 10), 1}, {-0.1, ratio(t, -1, 10), -1}, {0.3, ratio(t, 3, 10), -1}, {0.25, ratio(t, 1, 4), 0}, {0.25, ratio(t, 1, 3), -1}, {-3, ratio(t, -3, 1), 0}, {-3, ratio(t, 3, 1), -1}, {3, ratio(t, -3, 1), 1},
		{0, rat.Rat{}, 0}, {minusNought(), rat.Rat{}, 0}, {0, ratio(t, 1, 7), -1}, {minusNought(), ratio(t, 1, 7), -1}, {0, ratio(t, -1, 7), 1}, {minusNought(), ratio(t, -1, 7), 1},
		{least, rat.Rat{}, 1}, {-least, rat.Rat{}, -1}, {least, twoTo(t, -1074), 0}, {least, twoTo(t, -1073), -1}, {least, twoTo(t, -1075), 1}, {0, twoTo(t, -end+1), -1}, {0, twoTo(t, -end+1).Neg(), 1}, {least, twoTo(t, -end+1), 1},
		{most, twoTo(t, 1024), -1}, {most, less(t, twoTo(t, 1024), twoTo(t, 971)), 0}, {most, less(t, twoTo(t, 1024), twoTo(t, 970)), -1}, {-most, twoTo(t, 1024).Neg(), 1}, {most, twoTo(t, end-1), -1}, {-most, twoTo(t, end-1).Neg(), 1},
		{1 << 63, ratio(t, maxInt, 1), 1}, {-1 << 63, ratio(t, minInt, 1), 0},
	} {
		wantCompare(t, c.x, c.r, c.want, api.OK)
	}
}

// P8.4: infinities are beyond all numbers.
func TestCompareInfinities(t *testing.T) {
	for _, r := range append(longRats(t), rat.Rat{}, ratio(t, 1, 3), ratio(t, -5, 1), exactly(t, most), exactly(t, -most), twoTo(t, 1024), twoTo(t, 1024).Neg()) {
		wantCompare(t, inf(), r, 1, api.OK)
		wantCompare(t, -inf(), r, -1, api.OK)
	}
}

// P8.4: floats against what lies at them and just beside them.
func TestCompareBeside(t *testing.T) {
	t.Parallel()
	littles := []rat.Rat{twoTo(t, -1200), twoTo(t, -63000), over(t, whole.Small(1), two(t, 1300, 1)), over(t, whole.Small(1), two(t, 63000, 1))}
	for i, rank := range someRanks() {
		for _, x := range []float64{floatAt(rank), floatAt(-rank)} {
			at, little := exactly(t, x), littles[i%4]
			wantCompare(t, x, at, 0, api.OK)
			wantCompare(t, x, plus(t, at, little), -1, api.OK)
			wantCompare(t, x, less(t, at, little), 1, api.OK)
			wantCompare(t, x, middleOf(t, math.Abs(x), floatAt(rank+1)), -1, api.OK)
			wantCompare(t, x, middleOf(t, math.Abs(x), floatAt(rank+1)).Neg(), 1, api.OK)
		}
	}
}

// P8.4: floats of all sizes against ratios of all sizes.
func TestCompareLong(t *testing.T) {
	t.Parallel()
	rats := longRats(t)
	for _, f := range someFracs()[:400] {
		rats = append(rats, ratio(t, f[0], f[1]))
	}
	for i, x := range someFloats() {
		if math.IsInf(x, 0) {
			continue
		}
		for j, r := range rats {
			if (i+j)%7 == 0 {
				wantCompare(t, x, r, rat.Compare(exactly(t, x), r), api.OK)
			}
		}
	}
}

// P8.4: NaN is no number.
func TestCompareRefuses(t *testing.T) {
	for _, x := range nans() {
		for _, r := range append(longRats(t), rat.Rat{}, ratio(t, 1, 2), ratio(t, -7, 1)) {
			wantCompare(t, x, r, 0, api.ErrReal)
		}
	}
}

// P8.6: Compare(x, Of(y)) says what < says.
func TestCompareAsLess(t *testing.T) {
	t.Parallel()
	list := someFloats()
	numbers := []float64{}
	for _, y := range list {
		if !math.IsInf(y, 0) {
			numbers = append(numbers, y)
		}
	}
	for _, y := range slices.Concat(numbers[:80], numbers[len(numbers)-40:]) {
		r, e := reals.Of(y)
		wantOK(t, e, "Of")
		for _, x := range list {
			want := 0
			if x < y {
				want = -1
			} else if y < x {
				want = 1
			}
			wantCompare(t, x, r, want, api.OK)
		}
	}
}
