package reals_test

import (
	"math"
	"strconv"
	"testing"

	"tollbook/rat"
	"tollbook/reals"
	"tollbook/whole"
)

// wantFloats asks Nearest, Floor, Ceil and Exact.
func wantFloats(t *testing.T, r rat.Rat, want floats) {
	t.Helper()
	got := floats{reals.Nearest(r), reals.Floor(r), reals.Ceil(r)}
	if !alike(got.near, want.near) || !alike(got.low, want.low) || !alike(got.high, want.high) {
		t.Errorf("Nearest, Floor, Ceil of %s are %g, want %g", told(r), got, want)
	}
	exact := 0.0
	if want.low == want.high {
		exact = want.low
	}
	if x, ok := reals.Exact(r); !alike(x, exact) || ok != (want.low == want.high) {
		t.Errorf("Exact(%s) is %g, %t, want %g", told(r), x, ok, exact)
	}
}

// wantBothWays asks of -r too: there floors are ceilings, but no floor or
// ceiling is -0.
func wantBothWays(t *testing.T, r rat.Rat, want floats) {
	t.Helper()
	wantFloats(t, r, want)
	if r.Sign() != 0 {
		wantFloats(t, r.Neg(), floats{-want.near, 0 - want.high, 0 - want.low})
	}
}

// P8.2, P8.3: the chapter's examples, and more of their kind.
func TestFloatsExamples(t *testing.T) {
	third := math.Float64frombits(0x3fd5555555555555)
	wantBothWays(t, rat.Rat{}, floats{0, 0, 0})
	wantBothWays(t, ratio(t, 1, 10), floats{0.1, math.Nextafter(0.1, 0), 0.1})
	wantBothWays(t, ratio(t, 1, 3), floats{third, third, math.Float64frombits(0x3fd5555555555556)})
	wantBothWays(t, ratio(t, 1, 4), floats{0.25, 0.25, 0.25})
	wantBothWays(t, ratio(t, 1<<53+1, 1), floats{1 << 53, 1 << 53, 1<<53 + 2})
	wantBothWays(t, ratio(t, 1<<53+3, 1), floats{1<<53 + 4, 1<<53 + 2, 1<<53 + 4})
	wantBothWays(t, ratio(t, 1<<54+2, 1), floats{1 << 54, 1 << 54, 1<<54 + 4})
	wantBothWays(t, ratio(t, 1<<54+3, 1), floats{1<<54 + 4, 1 << 54, 1<<54 + 4})
	wantBothWays(t, ratio(t, 1<<54-1, 1), floats{1 << 54, 1<<54 - 2, 1 << 54})
	wantBothWays(t, ratio(t, maxInt, 1), floats{1 << 63, 1<<63 - 1024, 1 << 63})
	wantBothWays(t, ratio(t, minInt, 1), floats{-1 << 63, -1 << 63, -1 << 63})
}

// P8.2, P8.3: at and about 2^1024 - 2^970, where infinities begin, and beyond.
func TestFloatsAtTheTop(t *testing.T) {
	edge, top, beyond := less(t, twoTo(t, 1024), twoTo(t, 970)), exactly(t, most), twoTo(t, 1024)
	isMax, nearMax, isOver := floats{most, most, most}, floats{most, most, inf()}, floats{inf(), most, inf()}
	wantBothWays(t, top, isMax)
	wantBothWays(t, edge, isOver)
	wantBothWays(t, beyond, isOver)
	for _, little := range []rat.Rat{ratio(t, 1, 1), ratio(t, 1, 2), ratio(t, 1, 3), twoTo(t, 900), twoTo(t, -1074), twoTo(t, -64000), over(t, whole.Small(1), two(t, 64000, 1))} {
		wantBothWays(t, less(t, edge, little), nearMax)
		wantBothWays(t, plus(t, edge, little), isOver)
		wantBothWays(t, less(t, beyond, little), isOver)
		wantBothWays(t, plus(t, beyond, little), isOver)
		wantBothWays(t, plus(t, top, little), nearMax)
		wantBothWays(t, less(t, top, little), floats{most, math.Nextafter(most, 0), most})
	}
	wantBothWays(t, plus(t, top, twoTo(t, 969)), nearMax)
	for _, n := range []int{1025, 1026, 1088, 2048, 4096, 60000, end - 1} {
		wantBothWays(t, twoTo(t, n), isOver)
		wantBothWays(t, over(t, two(t, n, -1), whole.Small(1)), isOver)
	}
}

// P8.2, P8.3: at and about 2^-1075, the middle between 0 and least, and between
// the floats behind it.
func TestFloatsNextToNought(t *testing.T) {
	half := twoTo(t, -1075)
	nearly := floats{0, 0, least}
	wantBothWays(t, half, nearly)
	wantBothWays(t, twoTo(t, -1074), floats{least, least, least})
	for _, little := range []rat.Rat{twoTo(t, -1076), twoTo(t, -1100), twoTo(t, -1150), twoTo(t, -64000), over(t, whole.Small(1), two(t, 60000, 1))} {
		wantBothWays(t, little, nearly)
		wantBothWays(t, less(t, half, little), nearly)
		wantBothWays(t, plus(t, half, little), floats{least, 0, least})
		wantBothWays(t, less(t, twoTo(t, -1074), little), floats{least, 0, least})
		wantBothWays(t, plus(t, twoTo(t, -1074), little), floats{least, least, 2 * least})
	}
	wantBothWays(t, times(t, half, ratio(t, 3, 2)), floats{least, 0, least})
	wantBothWays(t, times(t, half, ratio(t, 3, 1)), floats{2 * least, least, 2 * least})
	wantBothWays(t, times(t, half, ratio(t, 5, 1)), floats{2 * least, 2 * least, 3 * least})
	wantBothWays(t, times(t, half, ratio(t, 7, 1)), floats{4 * least, 3 * least, 4 * least})
	for _, n := range []int{1076, 1077, 1138, 1139, 1140, 2048, 20000, end - 1} {
		wantBothWays(t, twoTo(t, -n), nearly)
	}
	normal := 0x1p-1022
	wantBothWays(t, less(t, twoTo(t, -1022), half), floats{normal, normal - least, normal})
	wantBothWays(t, plus(t, twoTo(t, -1022), half), floats{normal, normal, normal + least})
}

// P8.2, P8.3: floats and what lies between them and the next: just beside them,
// in the middle and just beside it, with an even and an odd one below.
func TestFloatsBetweenTwo(t *testing.T) {
	t.Parallel()
	littles := []rat.Rat{twoTo(t, -1200), twoTo(t, -63000), over(t, whole.Small(1), two(t, 1300, 1)), over(t, whole.Small(1), two(t, 63000, 1))}
	for i, rank := range someRanks() {
		x, y := floatAt(rank), floatAt(rank+1)
		even := x
		if rank%2 != 0 {
			even = y
		}
		at, middle := exactly(t, x), middleOf(t, x, y)
		quarter := times(t, less(t, middle, at), ratio(t, 1, 2))
		wantBothWays(t, at, floats{x, x, x})
		wantBothWays(t, middle, floats{even, x, y})
		for _, little := range []rat.Rat{quarter, littles[i%4], littles[(i+1)%4]} {
			wantBothWays(t, plus(t, at, little), floats{x, x, y})
			wantBothWays(t, less(t, middle, little), floats{x, x, y})
			wantBothWays(t, plus(t, middle, little), floats{y, x, y})
			wantBothWays(t, less(t, plus(t, middle, less(t, middle, at)), little), floats{y, x, y})
		}
	}
}

// P8.2, P8.3: about every power of two that a float is: below it floats lie
// half as far apart.
func TestFloatsAboutPowers(t *testing.T) {
	t.Parallel()
	for n := -1022; n <= 1023; n++ {
		x := math.Ldexp(1, n)
		below, above := math.Nextafter(x, 0), math.Nextafter(x, inf())
		r := twoTo(t, n)
		wantBothWays(t, r, floats{x, x, x})
		wantBothWays(t, middleOf(t, x, above), floats{x, x, above})
		if n > -1022 {
			wantBothWays(t, less(t, r, twoTo(t, n-54)), floats{x, below, x})
			wantBothWays(t, less(t, r, times(t, ratio(t, 5, 4), twoTo(t, n-54))), floats{below, below, x})
		}
	}
}

// P8.2, P8.3: small ratios, as the machine divides; long ones of 64 bits, as it
// turns them into floats.
func TestFloatsSmall(t *testing.T) {
	t.Parallel()
	wantNear := func(r rat.Rat, near float64) {
		t.Helper()
		want := floats{near, near, near}
		switch rat.Compare(exactly(t, near), r) {
		case -1:
			want.high = math.Nextafter(near, inf())
		case 1:
			want.low = math.Nextafter(near, -inf())
		}
		wantFloats(t, r, want)
	}
	x := mixed(9)
	for _, f := range someFracs() {
		wantNear(ratio(t, f[0], f[1]), float64(f[0])/float64(f[1])+0)
	}
	for range 1500 {
		num, den := int64(x.next())>>(11+x.next()%50), int64(x.next()>>(11+x.next()%50))+1
		wantNear(ratio(t, num, den), float64(num)/float64(den)+0)
		long := int64(x.next()) >> (x.next() % 12)
		wantNear(ratio(t, long, 1), float64(long))
	}
}

// tenTo is 10 to the power n, n being below 0 too.
func tenTo(t *testing.T, n int) rat.Rat {
	t.Helper()
	ten := ratio(t, 10, 1)
	if n < 0 {
		ten, n = ratio(t, 1, 10), -n
	}
	power := ratio(t, 1, 1)
	for range n {
		power = times(t, power, ten)
	}
	return power
}

// P8.3: decimal numbers, as the library reads them.
func TestNearestOfDecimals(t *testing.T) {
	t.Parallel()
	x := mixed(12)
	for n := -345; n <= 310; n += 3 {
		power := tenTo(t, n)
		for range 3 {
			digits := int64(x.next() >> (1 + x.next()%60))
			text := strconv.FormatInt(digits, 10) + "e" + strconv.Itoa(n)
			want, err := strconv.ParseFloat(text, 64)
			if err != nil && !math.IsInf(want, 1) {
				t.Fatal(err)
			}
			r := times(t, ratio(t, digits, 1), power)
			if near := reals.Nearest(r); !alike(near, want) {
				t.Errorf("Nearest of %s is %g, want %g", text, near, want)
			}
			if near := reals.Nearest(r.Neg()); digits != 0 && !alike(near, -want) {
				t.Errorf("Nearest of -%s is %g, want %g", text, near, -want)
			}
		}
	}
}

// P8.2, P8.3: numbers of all sizes, of up to 1024 limbs above and below the
// line, held against all floats.
func TestFloatsLong(t *testing.T) {
	t.Parallel()
	for _, r := range longRats(t) {
		wantFloats(t, r, plainFloats(t, r))
	}
	x := mixed(31)
	for i := range 60 {
		r := over(t, number(t, i%2 == 0, x.list(1+i%20)...), number(t, false, x.list(1+i%17)...))
		wantFloats(t, r, plainFloats(t, r))
	}
}

// P8.2: just what is a float has one: a digit too many, a power beyond both
// ends, other denominators than powers of two.
func TestExactOfNone(t *testing.T) {
	wrong := []rat.Rat{ratio(t, 1, 3), ratio(t, 1, 10), ratio(t, 1<<53+1, 1), ratio(t, 1<<53+1, 1<<60), ratio(t, maxInt, 1), over(t, two(t, 54, -1), two(t, 500, 0)), twoTo(t, -1075), times(t, ratio(t, 3, 1), twoTo(t, -1075)), over(t, two(t, 53, -1), two(t, 1075, 0)),
		plus(t, twoTo(t, -1022), twoTo(t, -1075)), twoTo(t, 1024), plus(t, exactly(t, most), twoTo(t, 970)), plus(t, exactly(t, most), ratio(t, 1, 1)), twoTo(t, end-1), twoTo(t, -end+1), over(t, two(t, end, -1), two(t, end, -3))}
	for _, r := range wrong {
		for _, n := range []rat.Rat{r, r.Neg()} {
			if x, ok := reals.Exact(n); !alike(x, 0) || ok {
				t.Errorf("Exact(%s) is %g, %t", told(n), x, ok)
			}
		}
	}
}
