package rounding_test

import (
	"testing"

	"tollbook/api"
	"tollbook/rat"
	"tollbook/rounding"
	"tollbook/whole"
)

func wantPlaces(t *testing.T, r rat.Rat, places int, m api.Mode, want rat.Rat, err api.Errno) {
	t.Helper()
	if got, e := rounding.Places(r, places, m); e != err || !same(got, want) {
		t.Errorf("Places(%s, %d, %d) is %s, error %d, want %s, error %d", told(r), places, m, told(got), e, told(want), err)
	}
}

func tenTo(n int) int64 {
	ten := int64(1)
	for range n {
		ten *= 10
	}
	return ten
}

// P7.4: the chapter's examples, and more of their kind.
func TestPlacesExamples(t *testing.T) {
	for _, c := range []struct {
		r      frac
		places int
		m      api.Mode
		want   frac
	}{
		{frac{1, 3}, 2, api.ModeUp, frac{33, 100}}, {frac{1, 8}, 2, api.ModeEven, frac{3, 25}}, {frac{1, 8}, 2, api.ModeUp, frac{13, 100}}, {frac{-1, 8}, 2, api.ModeUp, frac{-3, 25}}, {frac{5, 1}, 0, api.ModeCeil, frac{5, 1}},
		{frac{22, 7}, 2, api.ModeEven, frac{314, 100}}, {frac{-1, 8}, 2, api.ModeDown, frac{-13, 100}}, {frac{-1, 8}, 2, api.ModeEven, frac{-12, 100}}, {frac{3, 8}, 2, api.ModeEven, frac{38, 100}},
		{frac{5, 2}, 0, api.ModeEven, frac{2, 1}}, {frac{5, 2}, 1, api.ModeFloor, frac{5, 2}}, {frac{1, 3}, 9, api.ModeCeil, frac{333333334, 1e9}}, {frac{1, 3}, 9, api.ModeFloor, frac{333333333, 1e9}}, {frac{-2, 3}, 9, api.ModeUp, frac{-666666667, 1e9}},
		{frac{1, 2e9}, 9, api.ModeUp, frac{1, 1e9}}, {frac{1, 2e9}, 9, api.ModeEven, frac{0, 1}}, {frac{3, 2e9}, 9, api.ModeEven, frac{2, 1e9}}, {frac{-1, 2e9}, 9, api.ModeDown, frac{-1, 1e9}}, {frac{1, 3e9}, 9, api.ModeCeil, frac{1, 1e9}},
		{frac{999999999, 1e9}, 8, api.ModeUp, frac{1, 1}}, {frac{maxInt, 1}, 9, api.ModeUp, frac{maxInt, 1}}, {frac{minInt, 1}, 0, api.ModeDown, frac{minInt, 1}},
	} {
		wantPlaces(t, ratio(t, c.r.num, c.r.den), c.places, c.m, ratio(t, c.want.num, c.want.den), api.OK)
	}
}

// P7.4: all places from 0 to 9, with small numbers.
func TestPlacesSmall(t *testing.T) {
	for places := 0; places <= 9; places++ {
		ten := tenTo(places)
		for i, f := range someFracs() {
			if i%5 != places%5 {
				continue
			}
			for _, m := range modes() {
				times := plainTo(frac{f.num * ten, f.den}, m)
				wantPlaces(t, ratio(t, f.num, f.den), places, m, ratio(t, times, ten), api.OK)
			}
		}
	}
}

// P7.4: the middle of two decimals and just beside it, at each of the places.
func TestPlacesMiddle(t *testing.T) {
	for places := 0; places <= 9; places++ {
		ten := tenTo(places)
		for num := int64(-50); num <= 50; num++ {
			for _, m := range modes() {
				wantPlaces(t, ratio(t, num, 10*ten), places, m, ratio(t, plainTo(frac{num, 10}, m), ten), api.OK)
			}
		}
	}
}

// P7.4: no places is To, and places are units.
func TestPlacesAreUnits(t *testing.T) {
	t.Parallel()
	for i, r := range append(middleRats(t), longRats(t)...) {
		for _, m := range modes() {
			wantPlaces(t, r, 0, m, wholeRat(t, to(t, r, m)), api.OK)
			for _, places := range []int{1, 2 + i%7, 9} {
				unit := ratio(t, 1, tenTo(places))
				want, e := longUnits(t, r, unit, m)
				wantPlaces(t, r, places, m, want, e)
				wantUnits(t, r, unit, m, want, e)
			}
		}
	}
}

// P7.4: answers of just MaxRatio limbs, and of one more: 2^65536 - 1 over 11 is
// no more than 2^65536 tenths, over 9 it is.
func TestPlacesAtTheLimit(t *testing.T) {
	top := two(t, end, -1)
	asked := [2]int{}
	for den := int64(1); den <= 40; den++ {
		for _, r := range []rat.Rat{over(t, top, whole.Small(den)), over(t, top, whole.Small(-den))} {
			for _, m := range modes() {
				want, e := longUnits(t, r, ratio(t, 1, 10), m)
				wantPlaces(t, r, 1, m, want, e)
				if e == api.OK {
					asked[0]++
				} else {
					asked[1]++
				}
			}
		}
	}
	if min(asked[0], asked[1]) < 20 {
		t.Errorf("%d are not too long, %d are", asked[0], asked[1])
	}
	for _, m := range modes() {
		wantPlaces(t, wholeRat(t, top), 9, m, wholeRat(t, top), api.OK)
		wantPlaces(t, over(t, top.Neg(), whole.Small(2)), 9, m, over(t, top.Neg(), whole.Small(2)), api.OK)
		wantPlaces(t, over(t, top, whole.Small(7)), 9, m, rat.Rat{}, api.ErrLong)
	}
}

// P7.4: modes that are none, places that are not from 0 to 9; ErrArg comes
// ahead of ErrLong.
func TestPlacesRefuses(t *testing.T) {
	long := over(t, two(t, end, -1), whole.Small(7))
	for _, r := range []rat.Rat{{}, ratio(t, 1, 1), ratio(t, -1, 3), long, long.Neg()} {
		for _, m := range wrongModes() {
			for _, places := range []int{0, 2, 9, -1, 10} {
				wantPlaces(t, r, places, m, rat.Rat{}, api.ErrArg)
			}
		}
		for _, places := range []int{-1, 10, -2, 11, 18, 19, 64, 4096, 1 << 32, -1 << 32, 1<<32 + 2, maxInt, minInt} {
			for _, m := range modes() {
				wantPlaces(t, r, places, m, rat.Rat{}, api.ErrArg)
			}
		}
	}
}
