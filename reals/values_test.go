package reals_test

import (
	"math"
	"slices"
	"testing"

	"tollbook/api"
	"tollbook/rat"
	"tollbook/reals"
	"tollbook/whole"
)

// answers are all that the calls tell of a float and a number.
type answers struct {
	of     rat.Rat
	bits   [6]uint64
	is     bool
	order  int
	number int64
	errs   [5]api.Errno
}

func ask(x float64, r rat.Rat) answers {
	var a answers
	var f [6]float64
	a.of, a.errs[0] = reals.Of(x)
	f[0], f[1], f[2] = reals.Nearest(r), reals.Floor(r), reals.Ceil(r)
	f[3], a.is = reals.Exact(r)
	a.order, a.errs[1] = reals.Compare(x, r)
	f[4], a.errs[2] = reals.Next(x, true)
	f[5], a.errs[3] = reals.Next(x, false)
	a.number, a.errs[4] = reals.Int64(x)
	for i, told := range f {
		a.bits[i] = math.Float64bits(told)
	}
	return a
}

func (a answers) same(o answers) bool {
	return same(a.of, o.of) && a.bits == o.bits && a.is == o.is && a.order == o.order && a.number == o.number && a.errs == o.errs
}

// kept is a number in memory of its own, which nothing of the package has.
func kept(t *testing.T, r rat.Rat) rat.Rat {
	t.Helper()
	p := r.Plain()
	own, e := rat.Of(api.Ratio{Neg: p.Neg, Num: slices.Clone(p.Num), Den: slices.Clone(p.Den)})
	wantOK(t, e, "rat.Of")
	return own
}

// scribble writes over all lists that are told of a number, and over the room
// behind their ends.
func scribble(r rat.Rat) {
	p := r.Plain()
	for _, l := range [][]uint64{p.Num, p.Den, r.Num().Abs().Limbs(), r.Den().Limbs()} {
		l = l[:cap(l)]
		for i := range l {
			l[i] ^= 0xdeadbeefdeadbeef
		}
	}
}

func wantNothingBeside(t *testing.T, a answers) {
	t.Helper()
	for i, beside := range []bool{!same(a.of, rat.Rat{}), a.order != 0, a.bits[4] != 0, a.bits[5] != 0, a.number != 0} {
		if a.errs[i] != api.OK && beside {
			t.Errorf("the call number %d answers beside the error %d", i, a.errs[i])
		}
	}
	if !a.is && a.bits[3] != 0 {
		t.Error("Exact answers a float where there is none")
	}
}

// R2, R3, R5, R6: numbers stay what they were, the same calls answer the same,
// and nothing stands beside an error.
func TestNothingChanges(t *testing.T) {
	rats := []rat.Rat{{}, ratio(t, 5, 2), ratio(t, -1, 3), ratio(t, minInt, 1), twoTo(t, 1024), twoTo(t, -1075).Neg(), over(t, whole.Small(-1), two(t, 500, 3)), wholeRat(t, two(t, end, -1)), over(t, two(t, end, -1), two(t, end, -3))}
	for _, x := range append(nans(), inf(), -inf(), 0, minusNought(), least, -least, 0.1, -1, 3, 0x1p-1022, 1<<63, -1<<63, most, -most) {
		for i, r := range rats {
			copied, own := r, kept(t, r)
			first := ask(x, r)
			later := first
			later.of = kept(t, first.of)
			scribble(first.of)
			scribble(r)
			if !first.same(later) || !same(r, own) || !same(copied, own) {
				t.Errorf("%g, number %d: something has changed", x, i)
			}
			if !ask(x, copied).same(later) || !ask(x, own).same(later) {
				t.Errorf("%g, number %d: other answers the next time", x, i)
			}
			wantNothingBeside(t, later)
		}
	}
}

// R8: calls may be made at one time.
func TestAtOneTime(t *testing.T) {
	x := mixed(17)
	r := over(t, number(t, true, x.list(60)...), number(t, false, x.list(70)...))
	for _, f := range []float64{0.1, -least, most, inf(), 1 << 62} {
		want := ask(f, r)
		done := make(chan bool)
		for range 8 {
			go func() { done <- ask(f, r).same(want) }()
		}
		for range 8 {
			if !<-done {
				t.Errorf("%g: calls at one time disturb each other", f)
			}
		}
	}
}
