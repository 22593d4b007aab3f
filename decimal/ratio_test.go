package decimal_test

import (
	"strings"
	"testing"

	"tollbook/api"
	"tollbook/decimal"
	"tollbook/nat"
	"tollbook/rat"
	"tollbook/whole"
)

// P6.2: num over den is Units over 10^Places, multiplied over cross.
func TestRat(t *testing.T) {
	for _, d := range someDecs() {
		r, e := decimal.Rat(d)
		wantOK(t, e, "Rat")
		left, e := whole.Mul(r.Num(), whole.New(false, nat.Small(tenTo(d.Places))))
		wantOK(t, e, "whole.Mul")
		right, e := whole.Mul(whole.Small(d.Units), whole.New(false, r.Den()))
		wantOK(t, e, "whole.Mul")
		if whole.Compare(left, right) != 0 {
			t.Errorf("Rat(%v) is %s/%v", d, whole.Text(r.Num()), r.Den().Limbs())
		}
	}
}

func TestRatExamples(t *testing.T) {
	for _, c := range []struct {
		d        api.Dec
		num, den int64
	}{
		{dec(25, 1), 5, 2}, {dec(0, 0), 0, 1}, {dec(-3, 0), -3, 1}, {dec(1, 9), 1, 1e9}, {dec(1953125, 9), 1, 512}, {dec(-5, 2), -1, 20}, {dec(maxInt, 9), maxInt, 1e9}, {dec(minInt, 0), minInt, 1},
		{dec(minInt, 9), minInt >> 9, 1953125}, {dec(100, 0), 100, 1}, {dec(125, 3), 1, 8},
	} {
		if r, e := decimal.Rat(c.d); rat.Compare(r, ratio(t, c.num, c.den)) != 0 || e != api.OK {
			t.Errorf("Rat(%v) is %s/%v, %d", c.d, whole.Text(r.Num()), r.Den().Limbs(), e)
		}
	}
}

func TestRatRefuses(t *testing.T) {
	for _, d := range wrongDecs() {
		if r, e := decimal.Rat(d); r.Sign() != 0 || r.Long() != 1 || e != api.ErrDecimal {
			t.Errorf("Rat(%v) is of sign %d, %d", d, r.Sign(), e)
		}
	}
}

func wantOf(t *testing.T, r rat.Rat, want api.Dec, err api.Errno, what string) {
	t.Helper()
	if d, e := decimal.Of(r); d != want || e != err {
		t.Errorf("Of(%s) is %v, %d, want %v, %d", short(what), d, e, want, err)
	}
}

// P6.2: all places are tried, for all small ratios and for each denominator
// that divides a power of ten, or three times one.
func TestOf(t *testing.T) {
	for den := int64(1); den <= 1100; den++ {
		for num := int64(-7); num <= 23; num++ {
			want, err := plainOf(num, den)
			wantOf(t, ratio(t, num, den), want, err, "a small ratio")
		}
	}
	for twos := range 12 {
		for fives := range 12 {
			den := int64(1) << twos
			for range fives {
				den *= 5
			}
			for _, num := range []int64{1, -1, 3, 7, 10, -1000, 999999999, 1024, -390625} {
				for _, times := range []int64{1, 3} {
					want, err := plainOf(num, den*times)
					wantOf(t, ratio(t, num, den*times), want, err, "a ratio over twos and fives")
				}
			}
		}
	}
}

// P6.2: just nine places, and just ten.
func TestOfNinePlaces(t *testing.T) {
	wantOf(t, ratio(t, 1, 512), dec(1953125, 9), api.OK, "1/512")
	wantOf(t, ratio(t, 1, 1024), api.Dec{}, api.ErrEndless, "1/1024")
	wantOf(t, ratio(t, -1, 1953125), dec(-512, 9), api.OK, "-1/5^9")
	wantOf(t, ratio(t, 1, 9765625), api.Dec{}, api.ErrEndless, "1/5^10")
	wantOf(t, ratio(t, 1, 1e9), dec(1, 9), api.OK, "1/10^9")
	wantOf(t, ratio(t, 1, 1e10), api.Dec{}, api.ErrEndless, "1/10^10")
	wantOf(t, ratio(t, 10, 1e10), dec(1, 9), api.OK, "10/10^10")
	wantOf(t, ratio(t, 1, 2e9), api.Dec{}, api.ErrEndless, "1/(2 10^9)")
	wantOf(t, ratio(t, 1, 5e9), api.Dec{}, api.ErrEndless, "1/(5 10^9)")
	wantOf(t, ratio(t, 1, 3e9), api.Dec{}, api.ErrEndless, "1/(3 10^9)")
	wantOf(t, ratio(t, 1, 3), api.Dec{}, api.ErrEndless, "1/3")
	wantOf(t, ratio(t, 5, 2), dec(25, 1), api.OK, "5/2")
	wantOf(t, ratio(t, -3, 1), dec(-3, 0), api.OK, "-3")
	wantOf(t, ratio(t, 100, 1), dec(100, 0), api.OK, "100")
	wantOf(t, rat.Rat{}, dec(0, 0), api.OK, "the zero value")
}

// P6.2: both ends of 64 bits, with each number of places, and one beyond.
func TestOfAtTheEnds(t *testing.T) {
	for places := range 10 {
		for _, c := range []struct {
			units string
			want  int64
			e     api.Errno
		}{
			{"9223372036854775807", maxInt, api.OK}, {"-9223372036854775808", minInt, api.OK}, {"9223372036854775808", 0, api.ErrOver}, {"-9223372036854775809", 0, api.ErrOver},
			{"9223372036854775809", 0, api.ErrOver}, {"18446744073709551615", 0, api.ErrOver}, {"18446744073709551617", 0, api.ErrOver}, {"-18446744073709551617", 0, api.ErrOver}, {"340282366920938463463374607431768211457", 0, api.ErrOver},
			{"-9223372036854775807", -maxInt, api.OK},
		} {
			want := dec(c.want, places)
			if c.e != api.OK {
				want = api.Dec{}
			}
			wantOf(t, over(t, c.units, ten(places)), want, c.e, c.units)
		}
	}
}

// P6.2: over only by the fewest places that they need.
func TestOfOverByPlaces(t *testing.T) {
	wantOf(t, ratio(t, 922337203685477581, 10), dec(922337203685477581, 1), api.OK, "922337203685477581/10")
	wantOf(t, over(t, "92233720368547758075", "10"), api.Dec{}, api.ErrOver, "92233720368547758075/10")
	wantOf(t, over(t, "18446744073709551615", "2"), api.Dec{}, api.ErrOver, "18446744073709551615/2")
	wantOf(t, ratio(t, maxInt, 2), api.Dec{}, api.ErrOver, "(2^63 - 1)/2")
	wantOf(t, ratio(t, minInt+1, 2), api.Dec{}, api.ErrOver, "(-2^63 + 1)/2")
	wantOf(t, ratio(t, 1844674407370955161, 2), dec(9223372036854775805, 1), api.OK, "1844674407370955161/2")
	wantOf(t, ratio(t, 1844674407370955163, 2), api.Dec{}, api.ErrOver, "1844674407370955163/2")
	wantOf(t, ratio(t, -1844674407370955161, 2), dec(-9223372036854775805, 1), api.OK, "-1844674407370955161/2")
	wantOf(t, ratio(t, 9223372037, 1), dec(9223372037, 0), api.OK, "9223372037")
	wantOf(t, ratio(t, 4722366482869, 512), dec(9223372036853515625, 9), api.OK, "4722366482869/512")
	wantOf(t, ratio(t, -4722366482869, 512), dec(-9223372036853515625, 9), api.OK, "-4722366482869/512")
	wantOf(t, ratio(t, 4722366482871, 512), api.Dec{}, api.ErrOver, "4722366482871/512")
	wantOf(t, ratio(t, -4722366482871, 512), api.Dec{}, api.ErrOver, "-4722366482871/512")
	wantOf(t, ratio(t, 4722366482870, 512), dec(922337203685546875, 8), api.OK, "4722366482870/512")
	wantOf(t, ratio(t, 9223372037, 1), dec(9223372037, 0), api.OK, "9223372037")
	wantOf(t, over(t, "9223372036854775807"+noughts(9), ten(9)), dec(maxInt, 0), api.OK, "2^63 - 1")
}

// P6.2: ErrEndless comes ahead of ErrOver; parts of 1024 limbs.
func TestOfErrorsInOrder(t *testing.T) {
	long := greatest(t)
	for _, sign := range []string{"", "-"} {
		for _, den := range []string{"3", "7", "1024", "10000000001", ten(10), "18446744073709551617", "20282409603651670423947251286016", ten(300), long} {
			wantOf(t, over(t, sign+"9223372036854775811", den), api.Dec{}, api.ErrEndless, "2^63 + 3 over "+den)
			wantOf(t, over(t, sign+"1", den), api.Dec{}, api.ErrEndless, "1 over "+den)
		}
		// 2^65536 - 1 is divided by 3, 5 and 17, not by 2, 7 or 11.
		for _, den := range []string{"2", "512", "1", "15", "50000000"} {
			wantOf(t, over(t, sign+long, den), api.Dec{}, api.ErrOver, "1024 limbs over "+den)
		}
		for _, den := range []string{"7", "11", "1024", ten(10), "18446744073709551629"} {
			wantOf(t, over(t, sign+long, den), api.Dec{}, api.ErrEndless, "1024 limbs over "+den)
		}
	}
	if !strings.HasSuffix(long, "5") {
		t.Errorf("the greatest numerator ends with %s", long[len(long)-1:])
	}
}
