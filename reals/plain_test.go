package reals_test

// What the tests hold the package against: floats are taken apart by the
// library's Frexp, Floor and Ceil are searched for among all floats by halving,
// and Nearest is asked for by the chapter's words, with nothing of the package
// in it.

import (
	"math"
	"slices"
	"testing"

	"tollbook/api"
	"tollbook/nat"
	"tollbook/rat"
	"tollbook/whole"
)

const (
	maxInt = 1<<63 - 1
	minInt = -1 << 63
	// end is the number of bits of the longest part that may be: 2^end is too long.
	end   = 64 * api.MaxRatio
	least = math.SmallestNonzeroFloat64
	most  = math.MaxFloat64
	// infRank is the rank of +inf.
	infRank = 0x7ff << 52
)

func inf() float64 {
	return math.Inf(1)
}

func minusNought() float64 {
	return math.Copysign(0, -1)
}

// nans are quiet and signalling ones, of both signs.
func nans() []float64 {
	list := []float64{math.NaN()}
	for _, bits := range []uint64{infRank + 1, infRank + 1<<51, infRank + 1<<52 - 1, infRank | 1<<63 + 1, 1<<64 - 1} {
		list = append(list, math.Float64frombits(bits))
	}
	return list
}

// floatAt is the float of that rank: 0 has +0, and each has the one that is
// next to the one ahead of it, up to both infinities.
func floatAt(rank int64) float64 {
	if rank < 0 {
		return -math.Float64frombits(uint64(-rank))
	}
	return math.Float64frombits(uint64(rank))
}

func rankOf(x float64) int64 {
	rank := int64(math.Float64bits(math.Abs(x)))
	if x < 0 {
		return -rank
	}
	return rank
}

// exactly is the number that a finite float is.
func exactly(t *testing.T, x float64) rat.Rat {
	t.Helper()
	part, power := math.Frexp(x)
	return times(t, ratio(t, int64(part*(1<<53)), 1), twoTo(t, power-53))
}

// rankBelow is that of the greatest float that is not above r.
func rankBelow(t *testing.T, r rat.Rat) int64 {
	t.Helper()
	low, high := int64(0), int64(infRank)
	if r.Sign() < 0 {
		low, high = -infRank, 0
	}
	for low+1 < high {
		middle := low + (high-low)/2
		if rat.Compare(exactly(t, floatAt(middle)), r) <= 0 {
			low = middle
		} else {
			high = middle
		}
	}
	return low
}

// floats are what three of the calls tell of a number.
type floats struct {
	near, low, high float64
}

func plainFloats(t *testing.T, r rat.Rat) floats {
	t.Helper()
	rank := rankBelow(t, r)
	f := floats{low: floatAt(rank), high: floatAt(rank + 1)}
	if rank != -infRank && rat.Compare(exactly(t, f.low), r) == 0 {
		f.high = f.low
	}
	f.near = plainNear(t, r, f.low, f.high)
	if f.near == 0 && r.Sign() < 0 {
		f.near = minusNought()
	}
	return f
}

// plainNear goes by the chapter's words; low and high are the floats about r.
func plainNear(t *testing.T, r rat.Rat, low, high float64) float64 {
	t.Helper()
	far := less(t, twoTo(t, 1024), twoTo(t, 970))
	switch {
	case rat.Compare(r, far) >= 0:
		return inf()
	case rat.Compare(r, far.Neg()) <= 0:
		return -inf()
	case low == high, math.IsInf(high, 1):
		return low
	case math.IsInf(low, -1):
		return high
	}
	switch rat.Compare(r, middleOf(t, low, high)) {
	case -1:
		return low
	case 1:
		return high
	}
	if isEvenTimes(t, exactly(t, low), less(t, exactly(t, high), exactly(t, low))) {
		return low
	}
	return high
}

// middleOf is that of two finite floats, or of one and the power of two beyond
// all of them.
func middleOf(t *testing.T, low, high float64) rat.Rat {
	t.Helper()
	b := twoTo(t, 1024)
	if !math.IsInf(high, 1) {
		b = exactly(t, high)
	}
	return times(t, plus(t, exactly(t, low), b), ratio(t, 1, 2))
}

// isEvenTimes is whether a number that is some whole number of steps is an even
// number of them.
func isEvenTimes(t *testing.T, r, step rat.Rat) bool {
	t.Helper()
	number, e := rat.Quo(r, step)
	wantOK(t, e, "rat.Quo")
	if one, _ := number.Den().Uint64(); one != 1 {
		t.Fatal("a float that is no multiple of the distance to the next")
	}
	limbs := number.Num().Abs().Limbs()
	return len(limbs) == 0 || limbs[0]%2 == 0
}

func ratio(t *testing.T, num, den int64) rat.Rat {
	t.Helper()
	r, e := rat.Small(num, den)
	wantOK(t, e, "rat.Small")
	return r
}

func over(t *testing.T, num, den whole.Int) rat.Rat {
	t.Helper()
	r, e := rat.New(num, den)
	wantOK(t, e, "rat.New")
	return r
}

func wholeRat(t *testing.T, i whole.Int) rat.Rat {
	t.Helper()
	return over(t, i, whole.Small(1))
}

func plus(t *testing.T, parts ...rat.Rat) rat.Rat {
	t.Helper()
	all := rat.Rat{}
	for _, p := range parts {
		var e api.Errno
		all, e = rat.Add(all, p)
		wantOK(t, e, "rat.Add")
	}
	return all
}

func less(t *testing.T, a, b rat.Rat) rat.Rat {
	t.Helper()
	r, e := rat.Sub(a, b)
	wantOK(t, e, "rat.Sub")
	return r
}

func times(t *testing.T, a, b rat.Rat) rat.Rat {
	t.Helper()
	r, e := rat.Mul(a, b)
	wantOK(t, e, "rat.Mul")
	return r
}

// twoTo is 2 to the power n, n being below 0 too.
func twoTo(t *testing.T, n int) rat.Rat {
	t.Helper()
	if n < 0 {
		return over(t, whole.Small(1), two(t, -n, 0))
	}
	return wholeRat(t, two(t, n, 0))
}

// two is 2 to the power n, and as much more as is told.
func two(t *testing.T, n int, more int64) whole.Int {
	t.Helper()
	power, e := nat.Pow(nat.Small(2), n)
	wantOK(t, e, "nat.Pow")
	sum, e := whole.Add(whole.New(false, power), whole.Small(more))
	wantOK(t, e, "whole.Add")
	return sum
}

func number(t *testing.T, below bool, l ...uint64) whole.Int {
	t.Helper()
	n, e := nat.Of(l)
	wantOK(t, e, "nat.Of")
	return whole.New(below, n)
}

func wantOK(t *testing.T, e api.Errno, what string) {
	t.Helper()
	if e != api.OK {
		t.Errorf("%s: error %d", what, e)
	}
}

func same(a, b rat.Rat) bool {
	p, q := a.Plain(), b.Plain()
	return p.Neg == q.Neg && slices.Equal(p.Num, q.Num) && slices.Equal(p.Den, q.Den)
}

// alike tells +0 from -0.
func alike(a, b float64) bool {
	return math.Float64bits(a) == math.Float64bits(b)
}

// told is a number that can stand in a report.
func told(r rat.Rat) string {
	short := func(s string) string {
		if len(s) > 50 {
			return s[:20] + " .. " + s[len(s)-20:]
		}
		return s
	}
	return short(whole.Text(r.Num())) + "/" + short(whole.Text(whole.New(false, r.Den())))
}

// mixed tells numbers without an order, the same ones in every run.
type mixed uint64

func (x *mixed) next() uint64 {
	*x += 0x9e3779b97f4a7c15
	z := uint64(*x)
	z = (z ^ z>>30) * 0xbf58476d1ce4e5b9
	z = (z ^ z>>27) * 0x94d049bb133111eb
	return z ^ z>>31
}

// list has just n limbs, the highest not 0; some are 0 or the greatest.
func (x *mixed) list(n int) []uint64 {
	l := make([]uint64, n)
	for i := range l {
		switch x.next() % 4 {
		case 0:
			l[i] = 0
		case 1:
			l[i] = 1<<64 - 1
		default:
			l[i] = x.next()
		}
	}
	l[n-1] |= 1 << (x.next() % 64)
	return l
}

// someRanks are those of finite floats from 0 on, each with the one behind it,
// so that each pair has an even and an odd one: 0, least, floats that are not
// normal, the least normal one, powers of two, Max, and others at hazard.
func someRanks() []int64 {
	x := mixed(3)
	marks := []float64{0, 3 * least, 1000 * least, 0x1p-1050, 0x1p-1023, 0x1p-1022, 0x1p-1021, 0x1p-500, 0x1p-53, 0.1, 1.0 / 3, 0.5, 1, 1.5, 2, 3, 10, 1 << 52, 1 << 53, 1 << 62, 1 << 63, 1 << 64, 1e22, 1e23, 1e300, 0x1p1022, 0x1p1023}
	ranks := []int64{infRank - 2, infRank - 1}
	for _, m := range marks {
		for rank := max(rankOf(m)-2, 0); rank <= rankOf(m)+1; rank++ {
			ranks = append(ranks, rank)
		}
	}
	for range 60 {
		ranks = append(ranks, int64(x.next()%infRank), int64(x.next()%(1<<52)))
	}
	return ranks
}

// someFloats are floats of both signs, -0 among them, the infinities too.
func someFloats() []float64 {
	list := []float64{inf(), -inf(), minusNought()}
	for _, rank := range someRanks() {
		list = append(list, floatAt(rank), floatAt(-rank))
	}
	return list
}

// longRats are of 1024 limbs in Num, in Den or in both, on both sides of 0: far
// beyond all floats, next to 0, and of a size with them.
func longRats(t *testing.T) []rat.Rat {
	t.Helper()
	x := mixed(70)
	one := whole.Small(1)
	rats := []rat.Rat{
		over(t, two(t, end, -1), one), over(t, two(t, end-64, 0), one), over(t, two(t, end, -1), whole.Small(2)), over(t, one, two(t, end, -1)), over(t, whole.Small(3), two(t, end-64, 0)),
		over(t, two(t, end-1, 0), two(t, end, -1)), over(t, two(t, end-1, -1), two(t, end, -1)), over(t, two(t, end, -1), two(t, end, -3)), over(t, two(t, end, -3), two(t, end, -1)),
		over(t, two(t, end, -1), two(t, end-1, 0)), over(t, two(t, end, -1), two(t, end/2, 0)), over(t, two(t, end/2, -1), two(t, end, -1)),
		over(t, two(t, end, -1), two(t, end-1024, -1)), over(t, two(t, end, -1), two(t, end-1024, 1)), over(t, two(t, end, -1), two(t, end-1023, 1)), over(t, two(t, end, -1), two(t, end-1025, 1)),
		over(t, two(t, end-1076, 1), two(t, end, -1)), over(t, two(t, end-1075, 1), two(t, end, -1)), over(t, two(t, end-1075, -1), two(t, end, -1)), over(t, two(t, end-1074, 1), two(t, end, -1)), over(t, two(t, end-1022, -1), two(t, end, -1)),
	}
	for _, long := range [][2]int{{1024, 1024}, {1024, 1023}, {1024, 1009}, {1024, 1008}, {1024, 1007}, {1008, 1024}, {1007, 1024}, {1006, 1024}, {1024, 500}, {3, 1024}, {1024, 1}} {
		rats = append(rats, over(t, number(t, false, x.list(long[0])...), number(t, false, x.list(long[1])...)))
	}
	for _, r := range slices.Clone(rats) {
		rats = append(rats, r.Neg())
	}
	return rats
}

// someFracs are all with small parts.
func someFracs() [][2]int64 {
	fracs := [][2]int64{}
	for den := int64(1); den <= 25; den++ {
		for num := -30; num <= 30; num++ {
			fracs = append(fracs, [2]int64{int64(num), den})
		}
	}
	return fracs
}

// The plain ways are themselves held against what anyone knows.
func TestPlain(t *testing.T) {
	for _, rank := range someRanks() {
		x := floatAt(rank)
		if floatAt(rank+1) != math.Nextafter(x, inf()) || rankOf(x) != rank || rankOf(-x) != -rank || floatAt(-rank) != -x {
			t.Errorf("the float of rank %d", rank)
		}
		if rank > 0 && floatAt(-rank+1) != math.Nextafter(-x, inf()) {
			t.Errorf("the float of rank %d", -rank+1)
		}
	}
	for _, c := range []struct {
		x    float64
		want rat.Rat
	}{{0.5, ratio(t, 1, 2)}, {-3, ratio(t, -3, 1)}, {0.1, ratio(t, 3602879701896397, 1<<55)}, {least, twoTo(t, -1074)}, {most, less(t, twoTo(t, 1024), twoTo(t, 971))}, {0, rat.Rat{}}} {
		if !same(exactly(t, c.x), c.want) {
			t.Errorf("exactly(%g)", c.x)
		}
	}
	for _, c := range []struct {
		r    rat.Rat
		want floats
	}{
		{ratio(t, 1, 10), floats{0.1, math.Nextafter(0.1, 0), 0.1}}, {ratio(t, -1, 10), floats{-0.1, -0.1, -math.Nextafter(0.1, 0)}}, {rat.Rat{}, floats{0, 0, 0}}, {ratio(t, -7, 1), floats{-7, -7, -7}},
		{ratio(t, 1<<53+1, 1), floats{1 << 53, 1 << 53, 1<<53 + 2}}, {ratio(t, 1<<53+3, 1), floats{1<<53 + 4, 1<<53 + 2, 1<<53 + 4}}, {twoTo(t, -1076).Neg(), floats{minusNought(), -least, 0}}, {twoTo(t, 1024), floats{inf(), most, inf()}},
	} {
		if f := plainFloats(t, c.r); !alike(f.near, c.want.near) || !alike(f.low, c.want.low) || !alike(f.high, c.want.high) {
			t.Errorf("plainFloats(%s) is %g, want %g", told(c.r), f, c.want)
		}
	}
}
