package rounding_test

import (
	"slices"
	"testing"

	"tollbook/api"
	"tollbook/rat"
	"tollbook/rounding"
	"tollbook/whole"
)

// answers are all that the calls tell of a number, a unit and a mode.
type answers struct {
	rats  [2]rat.Rat
	whole whole.Int
	n     int64
	name  string
	named bool
	errs  [4]api.Errno
}

func ask(r, unit rat.Rat, places int, m api.Mode) answers {
	var a answers
	a.whole, a.errs[0] = rounding.To(r, m)
	a.rats[0], a.errs[1] = rounding.Units(r, unit, m)
	a.rats[1], a.errs[2] = rounding.Places(r, places, m)
	a.n, a.errs[3] = rounding.Int64(r, m)
	a.name, a.named = rounding.Name(m)
	return a
}

func (a answers) same(o answers) bool {
	return same(a.rats[0], o.rats[0]) && same(a.rats[1], o.rats[1]) && whole.Compare(a.whole, o.whole) == 0 &&
		a.n == o.n && a.name == o.name && a.named == o.named && a.errs == o.errs
}

// kept is a number in memory of its own, which nothing of the package has.
func kept(t *testing.T, r rat.Rat) rat.Rat {
	t.Helper()
	p := r.Plain()
	own, e := rat.Of(api.Ratio{Neg: p.Neg, Num: slices.Clone(p.Num), Den: slices.Clone(p.Den)})
	wantOK(t, e, "rat.Of")
	return own
}

func (a answers) kept(t *testing.T) answers {
	t.Helper()
	own := a
	own.rats = [2]rat.Rat{kept(t, a.rats[0]), kept(t, a.rats[1])}
	own.whole = number(t, a.whole.Sign() < 0, slices.Clone(a.whole.Abs().Limbs())...)
	return own
}

// scribble writes over all lists that are told of numbers, and over the room
// behind their ends.
func scribble(rats ...rat.Rat) {
	for _, r := range rats {
		p := r.Plain()
		for _, l := range [][]uint64{p.Num, p.Den, r.Num().Abs().Limbs(), r.Den().Limbs()} {
			l = l[:cap(l)]
			for i := range l {
				l[i] ^= 0xdeadbeefdeadbeef
			}
		}
	}
}

// R2, R3, R5, R6: numbers stay what they were, the same calls answer the same,
// and nothing stands beside an error.
func TestNothingChanges(t *testing.T) {
	rats := []rat.Rat{{}, ratio(t, 5, 2), ratio(t, -5, 2), ratio(t, -1, 3), ratio(t, minInt, 1), over(t, two(t, 300, 1), two(t, 100, 1)), over(t, whole.Small(-1), two(t, 500, 3)), wholeRat(t, two(t, end, -1)), over(t, two(t, end, -1), two(t, end, -3))}
	for _, m := range append(modes(), 0, 6, -1) {
		for i, r := range rats {
			for j, unit := range rats {
				copied, other := r, unit
				ownR, ownUnit := kept(t, r), kept(t, unit)
				places := (i+2*j)%12 - 1
				first := ask(r, unit, places, m)
				told := first.kept(t)
				scribble(first.rats[0], first.rats[1], wholeRat(t, told.whole), r, unit)
				scribble(r.Neg(), unit.Neg())
				if !first.same(told) {
					t.Errorf("mode %d, numbers %d and %d: what was answered has changed", m, i, j)
				}
				if !same(r, ownR) || !same(unit, ownUnit) || !same(copied, ownR) || !same(other, ownUnit) {
					t.Errorf("mode %d, numbers %d and %d: they have changed", m, i, j)
				}
				if !ask(copied, other, places, m).same(told) || !ask(ownR, ownUnit, places, m).same(told) {
					t.Errorf("mode %d, numbers %d and %d: other answers the next time", m, i, j)
				}
				wantNothingBeside(t, told)
			}
		}
	}
}

func wantNothingBeside(t *testing.T, a answers) {
	t.Helper()
	for i, beside := range []bool{a.whole.Sign() != 0, !same(a.rats[0], rat.Rat{}), !same(a.rats[1], rat.Rat{}), a.n != 0} {
		if a.errs[i] != api.OK && beside {
			t.Errorf("the call number %d answers beside the error %d", i, a.errs[i])
		}
	}
}

// R8: calls may be made at one time.
func TestAtOneTime(t *testing.T) {
	x := mixed(17)
	r := over(t, number(t, true, x.list(60)...), number(t, false, x.list(70)...))
	unit := over(t, number(t, false, x.list(5)...), number(t, false, x.list(90)...))
	for _, m := range modes() {
		want := ask(r, unit, 7, m)
		done := make(chan bool)
		for range 8 {
			go func() { done <- ask(r, unit, 7, m).same(want) }()
		}
		for range 8 {
			if !<-done {
				t.Errorf("mode %d: calls at one time disturb each other", m)
			}
		}
	}
}
