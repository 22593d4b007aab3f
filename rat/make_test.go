package rat_test

import (
	"slices"
	"testing"

	"tollbook/api"
	"tollbook/nat"
	"tollbook/rat"
	"tollbook/whole"
)

// P5.1: New and Small, of all small numbers, on both sides of 0.
func TestNew(t *testing.T) {
	for num := int64(-24); num <= 24; num++ {
		for den := int64(-24); den <= 24; den++ {
			r, e := rat.New(whole.Small(num), whole.Small(den))
			s, f := rat.Small(num, den)
			if den == 0 {
				wantRefused(t, r, e, api.ErrNought, "New over 0")
				wantRefused(t, s, f, api.ErrNought, "Small over 0")
				continue
			}
			want := frac{num * int64(sign(den)), den * int64(sign(den))}
			wantOK(t, e, "New")
			wantOK(t, f, "Small")
			wantFrac(t, r, want, "New")
			wantFrac(t, s, want, "Small")
		}
	}
}

// P5.1: the ends of int64.
func TestSmallAtTheEnds(t *testing.T) {
	for _, c := range []struct {
		num, den     int64
		below        bool
		above, under uint64
	}{
		{minInt, -1, false, 1 << 63, 1}, {minInt, 1, true, 1 << 63, 1}, {minInt, minInt, false, 1, 1}, {1, minInt, true, 1, 1 << 63},
		{-1, minInt, false, 1, 1 << 63}, {minInt, 2, true, 1 << 62, 1}, {minInt, 6, true, 1 << 62, 3}, {2, minInt, true, 1, 1 << 62},
		{minInt, maxInt, true, 1 << 63, maxInt}, {maxInt, minInt, true, maxInt, 1 << 63}, {maxInt, maxInt, false, 1, 1}, {maxInt, -maxInt, true, 1, 1},
		{minInt + 1, minInt, false, maxInt, 1 << 63}, {maxInt, 7, false, maxInt / 7, 1}, {maxInt, 1, false, maxInt, 1}, {-maxInt, -1, false, maxInt, 1},
	} {
		r, e := rat.Small(c.num, c.den)
		wantOK(t, e, "Small")
		wantTold(t, r, whole.New(c.below, nat.Small(c.above)), nat.Small(c.under), "Small")
	}
	for _, den := range []int64{minInt, -7, -1, 1, maxInt} {
		r, e := rat.Small(0, den)
		wantOK(t, e, "0 over a number")
		wantFrac(t, r, frac{0, 1}, "0 over a number")
	}
	for _, num := range []int64{minInt, -1, 0, 1, maxInt} {
		r, e := rat.Small(num, 0)
		wantRefused(t, r, e, api.ErrNought, "a number over 0")
	}
}

// P5.1: parts that come down to 1024 limbs, and to 1025, in lowest terms only.
func TestNewComesDown(t *testing.T) {
	t.Parallel()
	x := mixed(2)
	greatest, beyond := two(t, end, -1), two(t, end, 0)
	for i, common := range []whole.Int{
		whole.Small(1), whole.Small(-1), whole.Small(6), number(t, true, m), number(t, false, x.list(3)...),
		number(t, true, x.list(1024)...), number(t, false, x.list(3071)...), two(t, 64*3071, 0), two(t, 64*3071-1, 0).Neg(),
	} {
		for j, c := range []struct {
			num, den whole.Int
			want     api.Errno
		}{
			{greatest, whole.Small(1), api.OK}, {greatest, whole.Small(2), api.OK}, {whole.Small(2), greatest, api.OK},
			{greatest, two(t, end, -3), api.OK}, {whole.Small(-1), greatest, api.OK}, {whole.Small(5), whole.Small(-7), api.OK},
			{beyond, whole.Small(1), api.ErrLong}, {beyond, whole.Small(3), api.ErrLong}, {whole.Small(3), beyond, api.ErrLong}, {whole.Small(1), beyond, api.ErrLong},
			{greatest, beyond, api.ErrLong}, {beyond, greatest, api.ErrLong}, {beyond, two(t, end, 1), api.ErrLong}, {beyond, whole.Small(2), api.OK}, {whole.Small(2), beyond, api.OK},
		} {
			num, den := product(t, c.num, common), product(t, c.den, common)
			r, e := rat.New(num, den)
			if e != c.want {
				t.Errorf("New number %d.%d: error %d, want %d", i, j, e, c.want)
			}
			wantQuotient(t, r, e, num, den, "New")
			if s, f := rat.New(num, den.Neg()); f != e || !same(s, r.Neg()) {
				t.Errorf("New number %d.%d over what lies on the other side: error %d, want %d", i, j, f, e)
			}
		}
	}
}

// P5.1: the longest numbers that can be handed in; over 0 that is told first.
func TestNewOfTheLongest(t *testing.T) {
	t.Parallel()
	longest := number(t, false, repeated(m, api.MaxLimbs)...)
	next := sum(t, longest, whole.Small(-2))
	for _, c := range []struct {
		num, den whole.Int
		want     api.Errno
	}{
		{longest, whole.Int{}, api.ErrNought}, {longest.Neg(), whole.New(true, nat.Nat{}), api.ErrNought}, {whole.Int{}, whole.Int{}, api.ErrNought},
		{longest, whole.Small(1), api.ErrLong}, {whole.Small(1), longest, api.ErrLong}, {longest, next, api.ErrLong}, {next.Neg(), longest, api.ErrLong},
	} {
		r, e := rat.New(c.num, c.den)
		wantRefused(t, r, e, c.want, "New")
	}
	r, e := rat.New(longest, longest.Neg())
	wantOK(t, e, "New")
	wantFrac(t, r, frac{-1, 1}, "a number over itself below 0")
	r, e = rat.New(whole.Int{}, longest.Neg())
	wantOK(t, e, "New")
	wantFrac(t, r, frac{0, 1}, "0 over the longest number")
}

// P5.1: Whole.
func TestWhole(t *testing.T) {
	for _, x := range []int64{0, 1, -1, 2, 10, -10, 1 << 32, maxInt, minInt, minInt + 1} {
		r, e := rat.Whole(whole.Small(x))
		wantOK(t, e, "Whole")
		wantTold(t, r, whole.Small(x), nat.Small(1), "Whole")
	}
	for _, i := range []whole.Int{number(t, true, 0, 1), two(t, end, -1), two(t, end, -1).Neg(), two(t, end-64, 0), two(t, end-1, 0).Neg()} {
		r, e := rat.Whole(i)
		wantOK(t, e, "Whole")
		wantTold(t, r, i, nat.Small(1), "Whole")
	}
	for _, i := range []whole.Int{two(t, end, 0), two(t, end, 0).Neg(), two(t, end, 1), number(t, false, repeated(m, most+1)...), number(t, true, repeated(m, api.MaxLimbs)...)} {
		r, e := rat.Whole(i)
		wantRefused(t, r, e, api.ErrLong, "Whole")
	}
}

// P5.1: Of takes what is normal.
func TestOf(t *testing.T) {
	ratios := []api.Ratio{
		{Den: []uint64{1}}, {Num: []uint64{}, Den: []uint64{1}}, {Num: []uint64{3}, Den: []uint64{2}}, {Neg: true, Num: []uint64{3}, Den: []uint64{2}},
		{Num: []uint64{1}, Den: []uint64{1}}, {Neg: true, Num: []uint64{m}, Den: []uint64{0, 1}}, {Num: []uint64{0, 1}, Den: []uint64{m, m, m}},
		{Num: repeated(m, most), Den: []uint64{1}}, {Neg: true, Num: []uint64{1}, Den: repeated(m, most)},
		{Num: repeated(m, most), Den: append([]uint64{m - 2}, repeated(m, most-1)...)}, {Num: append(make([]uint64, most-1), 1), Den: []uint64{3}},
	}
	for _, r := range append(someRats(t), longRats(t)...) {
		ratios = append(ratios, r.Plain())
	}
	for i, p := range ratios {
		r, e := rat.Of(p)
		if e != api.OK {
			t.Errorf("Of number %d: error %d", i, e)
		}
		wantTold(t, r, number(t, p.Neg, p.Num...), natOf(t, p.Den), "Of")
	}
}

// P5.1: each way in which a ratio is not normal.
func TestOfRefuses(t *testing.T) {
	for i, p := range []api.Ratio{
		{}, {Neg: true}, {Num: []uint64{1}}, {Num: []uint64{1}, Den: []uint64{}}, {Num: []uint64{1}, Den: []uint64{0}}, {Num: []uint64{1}, Den: make([]uint64, most)}, {Den: []uint64{0}},
		{Num: []uint64{1, 0}, Den: []uint64{2}}, {Num: []uint64{1}, Den: []uint64{2, 0}}, {Num: []uint64{1, 0}, Den: []uint64{2, 0}}, {Num: []uint64{0, 1, 0, 0}, Den: []uint64{3}},
		{Num: []uint64{0}, Den: []uint64{1}}, {Num: make([]uint64, most), Den: []uint64{1}}, {Num: []uint64{0, 0}, Den: []uint64{1}}, {Den: []uint64{1, 0}}, {Num: []uint64{0}, Den: []uint64{0}},
		{Neg: true, Den: []uint64{1}}, {Neg: true, Num: []uint64{0}, Den: []uint64{1}}, {Den: []uint64{2}}, {Den: []uint64{m, m}}, {Neg: true, Den: []uint64{2}},
		{Num: []uint64{6}, Den: []uint64{4}}, {Num: []uint64{2}, Den: []uint64{2}}, {Neg: true, Num: []uint64{9}, Den: []uint64{6}}, {Num: []uint64{m}, Den: []uint64{m}},
		{Num: []uint64{0, 1}, Den: []uint64{2}}, {Num: []uint64{0, 1}, Den: []uint64{0, 1}}, {Num: []uint64{1, 1}, Den: []uint64{2, 2}}, {Num: []uint64{1, 1}, Den: []uint64{3, 3}},
		{Num: repeated(m, most), Den: repeated(m, most)}, {Num: repeated(m, most), Den: repeated(m, 2)}, {Num: append(repeated(m, most-1), 0), Den: []uint64{1}}, {Num: []uint64{1}, Den: append(repeated(m, most-1), 0)},
	} {
		r, e := rat.Of(p)
		if e != api.ErrRatio {
			t.Errorf("Of number %d: error %d", i, e)
		}
		wantRefused(t, r, e, api.ErrRatio, "Of")
	}
}

// P5.1: too many limbs as handed in, noughts too, are told ahead of all else.
func TestOfTooLong(t *testing.T) {
	one, lists := []uint64{1}, [][]uint64{
		make([]uint64, most+1), repeated(m, most+1), append(repeated(m, most), 0), append([]uint64{1}, make([]uint64, most)...), append([]uint64{6}, make([]uint64, 5000)...), make([]uint64, 1<<17),
	}
	for _, l := range lists {
		for i, p := range []api.Ratio{
			{Num: l, Den: one}, {Num: one, Den: l}, {Num: l, Den: l}, {Neg: true, Num: l, Den: one}, {Neg: true, Den: l}, {Num: l}, {Den: l},
			{Num: l, Den: []uint64{0}}, {Num: []uint64{4, 0}, Den: l}, {Num: repeated(m, most), Den: l}, {Num: l, Den: make([]uint64, most)},
		} {
			r, e := rat.Of(p)
			if e != api.ErrLong {
				t.Errorf("Of a list of %d, number %d: error %d", len(l), i, e)
			}
			wantRefused(t, r, e, api.ErrLong, "Of")
		}
	}
	if !slices.Equal(lists[2], append(repeated(m, most), 0)) {
		t.Error("Of changes what is handed in")
	}
}
