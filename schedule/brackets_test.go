package schedule_test

import (
	"math"
	"math/big"
	"slices"
	"testing"

	"tollbook/api"
	"tollbook/schedule"
)

// wantBrackets holds Check, and Pieces with some units, against the plain ways.
func wantBrackets(t *testing.T, list []api.Bracket, units ...*big.Rat) {
	t.Helper()
	want := api.OK
	if !ofBrackets(list).mayBe() {
		want = api.ErrSchedule
	}
	if e := schedule.Check(list); e != want {
		t.Fatalf("Check(%v): error %d, wanted %d", list, e, want)
	}
	for _, unit := range units {
		p, want := plainPieces(list, unit)
		got, e := schedule.Pieces(list, number(t, unit))
		if e != want {
			t.Fatalf("Pieces(%v) with a unit of %d limbs: error %d, wanted %d", list, long(unit), e, want)
		}
		wantPieces(t, got, p)
	}
}

// someUnits are such as may be and such as may not.
func someUnits() []*big.Rat {
	return []*big.Rat{q("1"), q("100"), q("10000"), q("1/3"), q("7/1000000000"), two(128, 0), over(q("1"), two(150, 0)), q("0"), q("-1"), q("-1/3")}
}

// P18.1: the chapter's examples.
func TestBracketsExamples(t *testing.T) {
	if e := schedule.Check(example()); e != api.OK {
		t.Errorf("error %d", e)
	}
	for _, c := range []struct {
		unit string
		want plain
	}{
		{"1", exampleLevels()},
		{"100", levels("0", "1/10", "10000", "1/5", "50050", "0")},
		{"1/3", levels("0", "1/10", "100/3", "1/5", "1001/6", "0")},
	} {
		got, e := schedule.Pieces(example(), number(t, q(c.unit)))
		if e != api.OK {
			t.Errorf("error %d", e)
		}
		wantPieces(t, got, c.want)
	}
	for _, list := range [][]api.Bracket{nil, {}, brackets(0, 0, 1, 0, 2, 0, 3, 0, 4, 0, 5, 0, 6, 0, 7, 0, 8, 0), brackets(1, 5), brackets(0, 5, 0, 6), brackets(0, 101), brackets(0, -1), {{Percent: dec(50, 1)}}} {
		if e := schedule.Check(list); e != api.ErrSchedule {
			t.Errorf("Check(%v): error %d", list, e)
		}
	}
	if e := schedule.Check(brackets(0, 100)); e != api.OK {
		t.Errorf("error %d", e)
	}
}

// P18.1: all lists of up to three brackets of some decimals, such too as may not be
// or are below 0 or above 100.
func TestBracketsOfAllKinds(t *testing.T) {
	aboves := []api.Dec{dec(0, 0), dec(1, 0), dec(5, 1), dec(15, 1), dec(-1, 0), dec(0, 1), dec(10, 1), dec(1, 10), dec(1, -1)}
	percents := []api.Dec{dec(0, 0), dec(100, 0), dec(1001, 1), dec(-1, 9), dec(50, 1)}
	var pool []api.Bracket
	for _, above := range aboves {
		for _, percent := range percents {
			pool = append(pool, api.Bracket{Above: above, Percent: percent})
		}
	}
	fits := 0
	for _, a := range pool {
		wantBrackets(t, []api.Bracket{a}, someUnits()...)
		for _, b := range pool {
			wantBrackets(t, []api.Bracket{a, b}, q("1/7"), q("0"))
			for _, c := range pool {
				wantBrackets(t, []api.Bracket{a, b, c})
			}
			if ofBrackets([]api.Bracket{a, b}).mayBe() {
				fits++
			}
		}
	}
	if fits != 12 {
		t.Errorf("%d of two may be", fits)
	}
}

// P18.1: from none to ten brackets, and very many.
func TestBracketsCount(t *testing.T) {
	many := make([]api.Bracket, 1<<16)
	for i := range many {
		many[i] = api.Bracket{Above: dec(int64(i), 0), Percent: dec(int64(i)%101, 0)}
	}
	for _, n := range []int{0, 1, 2, 7, 8, 9, 10, 16, 256, 264, 1 << 16} {
		wantBrackets(t, many[:n], someUnits()...)
		want := api.OK
		if n < 1 || n > 8 {
			want = api.ErrSchedule
		}
		if e := schedule.Check(many[:n]); e != want {
			t.Errorf("%d brackets: error %d", n, e)
		}
	}
}

// P18.1: one thing is wrong with one of eight brackets, the first or the last ones
// too.
func TestBracketsOneIsWrong(t *testing.T) {
	right := brackets(0, 0, 10, 100, 20, 1, 30, 50, 40, 50, 50, 7, 60, 0, 70, 99)
	right[3].Above, right[3].Percent = dec(25000000001, 9), dec(999999999, 7)
	wantBrackets(t, right, someUnits()...)
	if e := schedule.Check(right); e != api.OK {
		t.Fatalf("error %d", e)
	}
	for i := range right {
		wrong := slices.Repeat([][]api.Bracket{nil}, 16)
		for k := range wrong {
			wrong[k] = slices.Clone(right)
		}
		wrong[0][i].Percent = dec(100000000001, 9)
		wrong[1][i].Percent = dec(-1, 9)
		wrong[2][i].Percent = dec(101, 0)
		wrong[3][i].Percent = dec(70, 1)
		wrong[4][i].Percent = dec(7, 10)
		wrong[5][i].Percent = dec(7, -1)
		wrong[6][i].Percent = dec(math.MaxInt64, 0)
		wrong[7][i].Percent = dec(math.MinInt64, 9)
		wrong[8][i].Above = dec(right[i].Above.Units*10, right[i].Above.Places+1)
		wrong[9][i].Above = dec(-1, 0)
		wrong[10][i].Above = dec(7, 10)
		wrong[11][i].Above = dec(math.MinInt64, 0)
		wrong[12][i].Above = right[max(i-1, 0)].Above
		wrong[13][i].Above = right[min(i+1, 7)].Above
		wrong[14][i].Above = dec(math.MaxInt64, 0)
		wrong[15][i].Above = dec(5, 1)
		// A first one may be put in its own place, a last one too; the last one may be
		// far above, and the second one is above the first one still.
		mayBe := [16]bool{12: i == 0, 13: i == 7, 14: i == 7, 15: i == 1}
		for k, list := range wrong {
			wantBrackets(t, list, someUnits()...)
			if e := schedule.Check(list); (e == api.OK) != mayBe[k] {
				t.Errorf("the bracket %d, the fault %d: error %d", i, k, e)
			}
		}
	}
}

// P18.1: decimals whose places are unlike are compared by their worths, those of 64
// bits too.
func TestBracketsWorths(t *testing.T) {
	for _, c := range []struct {
		a, b api.Dec
		want api.Errno
	}{
		{dec(1, 9), dec(11, 9), api.OK}, {dec(9, 0), dec(91, 1), api.OK}, {dec(91, 1), dec(10, 0), api.OK}, {dec(91, 1), dec(9, 0), api.ErrSchedule}, {dec(999999999, 9), dec(1, 0), api.OK}, {dec(1, 0), dec(999999999, 9), api.ErrSchedule},
		{dec(math.MaxInt64-1, 0), dec(math.MaxInt64, 0), api.OK}, {dec(math.MaxInt64, 0), dec(math.MaxInt64-1, 0), api.ErrSchedule}, {dec(math.MaxInt64, 9), dec(math.MaxInt64, 8), api.OK}, {dec(math.MaxInt64, 8), dec(math.MaxInt64, 9), api.ErrSchedule},
		{dec(9223372036854775806, 0), dec(math.MaxInt64, 0), api.OK}, {dec(math.MaxInt64, 1), dec(922337203685477580, 0), api.ErrSchedule}, {dec(922337203685477580, 0), dec(math.MaxInt64, 1), api.OK},
	} {
		list := []api.Bracket{{}, {Above: c.a}, {Above: c.b}}
		if e := schedule.Check(list); e != c.want {
			t.Errorf("%v: error %d", list, e)
		}
		wantBrackets(t, list, someUnits()...)
	}
}

// P18.1: percents up to the last place.
func TestPercents(t *testing.T) {
	for _, c := range []struct {
		percent api.Dec
		rate    string
	}{
		{dec(0, 0), "0"}, {dec(1, 9), "1/100000000000"}, {dec(50, 0), "1/2"}, {dec(75, 1), "3/40"}, {dec(99999999999, 9), "99999999999/100000000000"}, {dec(100, 0), "1"}, {dec(19, 0), "19/100"}, {dec(1, 0), "1/100"},
	} {
		for _, unit := range []string{"1", "1/3", "100"} {
			got, e := schedule.Pieces([]api.Bracket{{Percent: c.percent}}, number(t, q(unit)))
			if e != api.OK {
				t.Fatalf("%v: error %d", c.percent, e)
			}
			wantPieces(t, got, levels("0", c.rate))
		}
	}
	for _, wrong := range []api.Dec{dec(100000000001, 9), dec(1000001, 4), dec(101, 0), dec(1000, 1), dec(1000000000000, 9), dec(math.MaxInt64, 0), dec(math.MaxInt64, 9), dec(-1, 9), dec(-100, 0), dec(math.MinInt64, 0), dec(math.MinInt64, 9), dec(0, 1), dec(0, -1), dec(1, math.MinInt), dec(1, math.MaxInt)} {
		if e := schedule.Check([]api.Bracket{{Percent: wrong}}); e != api.ErrSchedule {
			t.Errorf("%v: error %d", wrong, e)
		}
	}
}

// P18.1: Aboves that come to just three limbs, above or below the line, and to one
// more; what a unit has itself does not count.
func TestUnitsAtTheLimit(t *testing.T) {
	for _, c := range []struct {
		above api.Dec
		unit  *big.Rat
		want  api.Errno
	}{
		{dec(3, 0), over(two(192, -1), q("3")), api.OK}, {dec(3, 0), over(two(192, 0), q("3")), api.ErrLong}, {dec(1, 0), two(192, -1), api.OK}, {dec(1, 0), two(192, 0), api.ErrLong}, {dec(1, 0), two(191, 0), api.OK}, {dec(2, 0), two(191, 0), api.ErrLong},
		{dec(1, 0), over(q("1"), two(192, -1)), api.OK}, {dec(1, 0), over(q("1"), two(192, 0)), api.ErrLong}, {dec(2, 0), over(q("1"), two(192, 0)), api.OK}, {dec(5, 1), over(q("1"), two(191, 0)), api.ErrLong}, {dec(5, 1), over(q("1"), two(190, 0)), api.OK},
		{dec(5, 1), two(192, 0), api.OK}, {dec(5, 1), two(193, 0), api.ErrLong}, {dec(1, 9), times(two(192, -1), q("1000000000")), api.OK}, {dec(1, 9), times(two(192, 0), q("1000000000")), api.ErrLong}, {dec(1000000000, 0), over(two(192, -1), q("1000000000")), api.OK},
		{dec(1, 0), over(two(192, -1), two(192, -3)), api.OK}, {dec(1, 0), over(two(192, 1), two(192, -1)), api.ErrLong}, {dec(1, 0), over(two(192, -1), two(192, 1)), api.ErrLong},
		{dec(math.MaxInt64, 0), two(64*1024-1, 0), api.ErrLong}, {dec(2, 0), two(64*1024, -1), api.ErrLong}, {dec(1, 9), over(q("1"), two(64*1024, -1)), api.ErrLong}, {dec(1, 0), over(two(64*1024, -1), two(64*1024, -3)), api.ErrLong},
	} {
		list := []api.Bracket{{Percent: dec(7, 0)}, {Above: c.above, Percent: dec(3, 0)}}
		wantBrackets(t, list, c.unit)
		if _, e := schedule.Pieces(list, number(t, c.unit)); e != c.want {
			t.Errorf("%v with a unit of %d limbs: error %d", c.above, long(c.unit), e)
		}
		if got, e := schedule.Pieces(list[:1], number(t, c.unit)); e != api.OK || len(got) != 1 {
			t.Errorf("0 alone with a unit of %d limbs: error %d", long(c.unit), e)
		}
	}
}

// P18.1, R2: one Above of eight is too long.
func TestOneAboveIsLong(t *testing.T) {
	right := brackets(0, 10, 1, 20, 2, 30, 3, 40, 4, 50, 5, 60, 6, 70, 7, 80)
	unit := over(q("1"), two(191, 0))
	wantBrackets(t, right, unit)
	for i := 1; i < 8; i++ {
		list := slices.Clone(right)
		list[i].Above = dec(int64(10*i+5), 1)
		wantBrackets(t, list, unit)
		if got, e := schedule.Pieces(list, number(t, unit)); e != api.ErrLong || len(got) != 0 {
			t.Errorf("%d: %d pieces, error %d", i, len(got), e)
		}
		if got, e := schedule.Pieces(list[:i], number(t, unit)); e != api.OK || len(got) != i {
			t.Errorf("%d: %d pieces, error %d", i, len(got), e)
		}
	}
}

// P18.1: ErrSchedule goes ahead of ErrArg, and that ahead of ErrLong.
func TestBracketsErrorsInOrder(t *testing.T) {
	long, wrong := brackets(0, 1, 3, 1), brackets(0, 1, 3, 101)
	for _, c := range []struct {
		list []api.Bracket
		unit *big.Rat
		want api.Errno
	}{
		{wrong, minusOf(two(192, 0)), api.ErrSchedule}, {wrong, two(192, 0), api.ErrSchedule}, {wrong, q("0"), api.ErrSchedule}, {wrong, q("-1"), api.ErrSchedule}, {wrong, q("1"), api.ErrSchedule}, {nil, q("0"), api.ErrSchedule}, {nil, q("1"), api.ErrSchedule},
		{long, minusOf(two(192, 0)), api.ErrArg}, {long, minusOf(two(64*1024, -1)), api.ErrArg}, {long, q("0"), api.ErrArg}, {long, minusOf(over(q("1"), two(64*1024, -1))), api.ErrArg}, {long, q("-1/2"), api.ErrArg},
		{long, two(192, 0), api.ErrLong}, {long, q("1"), api.OK}, {long, over(q("1"), two(64*1024, -1)), api.ErrLong},
	} {
		got, e := schedule.Pieces(c.list, number(t, c.unit))
		if e != c.want || (len(got) > 0) != (e == api.OK) {
			t.Errorf("%v: %d pieces, error %d, wanted %d", c.list, len(got), e, c.want)
		}
	}
}

// P18.1: any brackets, with any units.
func TestBracketsMixed(t *testing.T) {
	roll := dice(91)
	for range 4000 {
		var list []api.Bracket
		at := int64(0)
		for range 1 + roll.below(9) {
			list = append(list, api.Bracket{Above: roll.dec(at), Percent: roll.dec(int64(roll.below(101)))})
			at += int64(roll.below(40))
		}
		list[0].Above = api.Dec{}
		unit := over(roll.whole(1+roll.below(4)), roll.whole(1+roll.below(4)))
		wantBrackets(t, list, unit, q("100"), minusOf(unit))
	}
}

// dec is that number or, seldom, one a little above it or in a form that may not be.
func (d *dice) dec(n int64) api.Dec {
	switch d.below(9) {
	case 0:
		return dec(n*1000+1+int64(d.below(9)), 3)
	case 1:
		return dec(n*1000000000+1, 9)
	}
	if d.below(60) == 0 {
		return dec(n*10, 1)
	}
	return dec(n, 0)
}
