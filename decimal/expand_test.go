package decimal_test

import (
	"strings"
	"testing"

	"tollbook/api"
	"tollbook/decimal"
	"tollbook/rat"
)

func wantExpanded(t *testing.T, r rat.Rat, places int, want string, just bool, what string) {
	t.Helper()
	if text, told, e := decimal.Expand(r, places); text != want || told != just || e != api.OK {
		t.Errorf("Expand(%s, %d) is %q, %t, %d, want %q, %t", short(what), places, short(text), told, e, short(want), just)
	}
}

// P6.6 against division as it is learned at school.
func TestExpand(t *testing.T) {
	for den := int64(1); den <= 130; den++ {
		for num := int64(-30); num <= 140; num++ {
			for places := range 8 {
				want, just := plainExpand(num, den, places)
				wantExpanded(t, ratio(t, num, den), places, want, just, "a small ratio")
			}
		}
	}
}

// P6.6: longer ones, to more places, and to the most.
func TestExpandFar(t *testing.T) {
	t.Parallel()
	x := mixed(4)
	for i := range 60 {
		num, den := int64(x.next())>>(4+i), int64(x.next()>>(5+i%50))|1
		for _, places := range []int{0, 1, 9, 17, 18, 19, 20, 38, 77, 1000, api.MaxExpand - 1, api.MaxExpand} {
			want, just := plainExpand(num, den, places)
			wantExpanded(t, ratio(t, num, den), places, want, just, "a ratio")
		}
	}
}

func TestExpandExamples(t *testing.T) {
	for _, c := range []struct {
		num, den int64
		places   int
		want     string
		just     bool
	}{
		{-1, 3, 2, "-0.33", false}, {1, 4, 2, "0.25", true}, {1, 4, 3, "0.250", true}, {22, 7, 0, "3", false}, {-1, 1000, 2, "-0.00", false}, {0, 1, 1, "0.0", true}, {1, 3, 4, "0.3333", false},
		// Places 0 and 1, of 0, and of what is cut off to noughts.
		{0, 1, 0, "0", true}, {0, 1, 9, "0.000000000", true}, {1, 2, 0, "0", false}, {-1, 2, 0, "-0", false}, {-1, 100, 1, "-0.0", false}, {-1, 1e18, 17, "-0." + noughts(17), false}, {1, 1e18, 17, "0." + noughts(17), false},
		// What ends just there, and just behind it.
		{1, 4, 1, "0.2", false}, {-1, 8, 3, "-0.125", true}, {-1, 8, 2, "-0.12", false}, {-1, 8, 4, "-0.1250", true}, {-1, 1e18, 18, "-0." + noughts(17) + "1", true}, {999, 1000, 2, "0.99", false}, {-999, 1000, 0, "-0", false}, {-1999, 1000, 0, "-1", false},
		// Whole numbers, and the ends of 64 bits.
		{-7, 1, 0, "-7", true}, {-7, 1, 1, "-7.0", true}, {1200, 1, 2, "1200.00", true}, {minInt, 1, 0, "-9223372036854775808", true}, {maxInt, 1, 3, "9223372036854775807.000", true}, {minInt, 10, 1, "-922337203685477580.8", true}, {maxInt, 10, 0, "922337203685477580", false},
	} {
		wantExpanded(t, ratio(t, c.num, c.den), c.places, c.want, c.just, "an example")
	}
	wantExpanded(t, rat.Rat{}, 2, "0.00", true, "the zero value")
}

// P6.6: to 4096 places.
func TestExpandToTheMost(t *testing.T) {
	most := api.MaxExpand
	wantExpanded(t, ratio(t, 2, 3), most, "0."+strings.Repeat("6", most), false, "2/3")
	wantExpanded(t, ratio(t, -7, 1), most, "-7."+noughts(most), true, "-7")
	wantExpanded(t, rat.Rat{}, most, "0."+noughts(most), true, "0")
	wantExpanded(t, over(t, "-1", ten(most)), most, "-0."+noughts(most-1)+"1", true, "-1/10^4096")
	wantExpanded(t, over(t, "-1", ten(most+1)), most, "-0."+noughts(most), false, "-1/10^4097")
	wantExpanded(t, over(t, "9", ten(most+1)), most, "0."+noughts(most), false, "9/10^4097")
	wantExpanded(t, over(t, "11", ten(most+1)), most, "0."+noughts(most-1)+"1", false, "11/10^4097")
	wantExpanded(t, over(t, "10", ten(most+1)), most, "0."+noughts(most-1)+"1", true, "10/10^4097")
	wantExpanded(t, over(t, "-"+strings.Repeat("9", most+1), ten(most+1)), most, "-0."+strings.Repeat("9", most), false, "-(1 - 10^-4097)")
	wantExpanded(t, over(t, "-"+strings.Repeat("9", most+1), ten(most)), most, "-9."+strings.Repeat("9", most), true, "-(10 - 10^-4096)")
}

// P6.6: parts of 1024 limbs, told in full, whose digits are known.
func TestExpandLongRatios(t *testing.T) {
	t.Parallel()
	long := greatest(t)
	for _, sign := range []string{"", "-"} {
		for _, places := range []int{0, 1, 3000, api.MaxExpand} {
			point := ""
			if places > 0 {
				point = "."
			}
			wantExpanded(t, over(t, sign+long, "1"), places, sign+long+point+noughts(places), true, "1024 limbs")
			wantExpanded(t, over(t, sign+"1", long), places, sign+"0"+point+noughts(places), false, "1 over 1024 limbs")
			// Tens share nothing with the greatest number but one 5.
			wantExpanded(t, over(t, sign+long, ten(3000)), places, sign+long[:len(long)-3000]+point+(long[len(long)-3000:] + noughts(api.MaxExpand))[:places], places >= 3000, "1024 limbs over 10^3000")
		}
	}
}

func TestExpandRefuses(t *testing.T) {
	for _, r := range []rat.Rat{{}, ratio(t, 1, 1), ratio(t, -1, 3), over(t, "-"+greatest(t), "7")} {
		for _, places := range []int{-1, 4097, -2, 4098, -4096, 1 << 32, -1 << 32, 1<<32 + 1, maxInt, minInt} {
			if text, just, e := decimal.Expand(r, places); text != "" || just || e != api.ErrArg {
				t.Errorf("Expand to %d places is %q, %t, %d", places, short(text), just, e)
			}
		}
	}
}
