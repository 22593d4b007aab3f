package money_test

import (
	"slices"
	"testing"

	"tollbook/api"
	"tollbook/money"
	"tollbook/rat"
	"tollbook/whole"
)

// answers are all that the calls tell of a currency, units, a ratio and a text.
type answers struct {
	rats  [2]rat.Rat
	units [5]int64
	text  string
	at    int
	errs  [9]api.Errno
}

func ask(c api.Currency, units int64, r rat.Rat, s string) answers {
	var a answers
	a.errs[0] = money.Check(c)
	a.rats[0], a.errs[1] = money.Major(c, units)
	a.rats[1], a.errs[2] = money.Minor(c, r)
	a.text, a.errs[3] = money.Text(c, units)
	a.units[0], a.at, a.errs[4] = money.Parse(c, s)
	a.units[1], a.errs[5] = money.Add(units, 1234)
	a.units[2], a.errs[6] = money.Sub(units, 1234)
	a.units[3], a.errs[7] = money.Sum([]int64{units, units, -1})
	a.units[4], a.errs[8] = money.Narrow(r.Num())
	return a
}

func (a answers) same(o answers) bool {
	return same(a.rats[0], o.rats[0]) && same(a.rats[1], o.rats[1]) && a.units == o.units && a.text == o.text && a.at == o.at && a.errs == o.errs
}

// kept is a number in memory of its own, which nothing of the package has.
func kept(t *testing.T, r rat.Rat) rat.Rat {
	t.Helper()
	p := r.Plain()
	own, e := rat.Of(api.Ratio{Neg: p.Neg, Num: slices.Clone(p.Num), Den: slices.Clone(p.Den)})
	wantOK(t, e, "rat.Of")
	return own
}

// scribble writes over all lists that are told of a number, and over the room
// behind their ends.
func scribble(r rat.Rat) {
	p := r.Plain()
	for _, l := range [][]uint64{p.Num, p.Den, r.Num().Abs().Limbs(), r.Den().Limbs()} {
		l = l[:cap(l)]
		for i := range l {
			l[i] ^= 0xdeadbeefdeadbeef
		}
	}
}

func wantNothingBeside(t *testing.T, a answers) {
	t.Helper()
	for i, beside := range []bool{false, !same(a.rats[0], rat.Rat{}), !same(a.rats[1], rat.Rat{}), a.text != "", a.units[0] != 0, a.units[1] != 0, a.units[2] != 0, a.units[3] != 0, a.units[4] != 0} {
		if a.errs[i] != api.OK && beside {
			t.Errorf("the call number %d answers beside the error %d", i, a.errs[i])
		}
	}
	if a.errs[4] != api.ErrAmount && a.at != 0 {
		t.Errorf("a place %d beside the error %d", a.at, a.errs[4])
	}
}

// R2, R3, R5, R6: numbers stay what they were, the same calls answer the same,
// and nothing stands beside an error.
func TestNothingChanges(t *testing.T) {
	rats := []rat.Rat{{}, ratio(t, 1, 3), ratio(t, -617, 50), ratio(t, minInt, 1), over(t, two(t, 63, 0), whole.Small(1)), over(t, whole.Small(-1), two(t, 500, 3)), over(t, two(t, end, -1), whole.Small(7))}
	texts := []string{"", "-", "12.34 EUR", "-0.05 EUR", "0 JPY", "12.34 EUR ", "92233720368547758.08 EUR", "1.000 BHD", "é", "-0.00"}
	for _, c := range append(currencies(), coin("eur", 2), coin("EUR", 5), coin("EUR", -1), api.Currency{}) {
		for i, r := range rats {
			for j, s := range texts {
				units := someUnits()[(7*i+j)%40]
				copied, own := r, kept(t, r)
				first := ask(c, units, r, s)
				later := first
				later.rats = [2]rat.Rat{kept(t, first.rats[0]), kept(t, first.rats[1])}
				scribble(first.rats[0])
				scribble(first.rats[1])
				scribble(r)
				if !first.same(later) || !same(r, own) || !same(copied, own) {
					t.Errorf("%v, %q: something has changed", c, s)
				}
				part := ("1" + s + "1")[1 : 1+len(s)]
				if !ask(c, units, copied, part).same(later) || !ask(c, units, own, s).same(later) {
					t.Errorf("%v, %q: other answers the next time", c, s)
				}
				wantNothingBeside(t, later)
			}
		}
	}
}

// R3: what is handed to Sum is not changed, nor is the room behind its end, and
// nil and empty lists are one.
func TestSumChangesNothing(t *testing.T) {
	for _, list := range [][]int64{nil, {}, {maxInt, 1, -1}, {maxInt, 1}, {minInt, 5, minInt}, {3, 1, 2}} {
		room := append(slices.Clone(list), maxInt, minInt, 7)
		was := slices.Clone(room)
		want := plainSum(t, list...)
		wantSum(t, want, room[:len(list)]...)
		wantSum(t, want, room[:len(list)]...)
		if !slices.Equal(room, was) {
			t.Errorf("Sum changes %v to %v", was, room)
		}
	}
}

// R8: calls may be made at one time.
func TestAtOneTime(t *testing.T) {
	r := over(t, two(t, 300, 1), two(t, 200, 3).Neg())
	for _, c := range append(currencies(), coin("EU", 2)) {
		want := ask(c, -1234, r, "-12.34 EUR")
		done := make(chan bool)
		for range 8 {
			go func() { done <- ask(c, -1234, r, "-12.34 EUR").same(want) }()
		}
		for range 8 {
			if !<-done {
				t.Errorf("%v: calls at one time disturb each other", c)
			}
		}
	}
}
