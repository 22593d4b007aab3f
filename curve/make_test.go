package curve_test

import (
	"math/big"
	"strconv"
	"testing"

	"tollbook/api"
	"tollbook/curve"
	"tollbook/rat"
	"tollbook/schedule"
)

// P21.1: a line has the slope that it is handed, of up to three limbs, and one kink.
func TestLine(t *testing.T) {
	for _, slope := range []*big.Rat{q("0"), q("1"), q("1/3"), q("7/2"), q("1000000007"), two(191, 0), two(192, -1), over(q("1"), two(191, 0)), over(q("1"), two(192, -1)), over(two(192, -1), two(192, -3)), over(two(192, -3), two(192, -1))} {
		b := line(t, slope)
		wantKinks(t, b.made.Kinks(), plain{{q("0"), q("0"), slope}})
		b.wantAll(t)
	}
}

// P21.1: below 0 it is ErrArg, however long; with four limbs above the line or below it
// ErrLong.
func TestLineErrors(t *testing.T) {
	end := uint(mostRatio * limbBits)
	long := []*big.Rat{two(192, 0), two(192, 1), over(q("1"), two(192, 0)), over(two(192, -1), two(192, 1)), over(two(192, 1), two(192, -1)), two(end, -1), over(q("1"), two(end, -1))}
	for _, slope := range long {
		wantNoLine(t, slope, api.ErrLong)
		wantNoLine(t, minusOf(slope), api.ErrArg)
	}
	for _, slope := range []*big.Rat{q("-1"), q("-1/3"), over(q("-1"), two(192, -1)), minusOf(two(192, -1))} {
		wantNoLine(t, slope, api.ErrArg)
	}
}

func wantNoLine(t *testing.T, slope *big.Rat, want api.Errno) {
	t.Helper()
	if c, e := curve.Line(number(t, slope)); c != nil || e != want {
		t.Errorf("a slope of %d limbs: error %d, wanted %d", long(slope), e, want)
	}
}

// P21.1: the curve of pieces is at each x what their schedule comes to.
func TestOfIsItsSchedule(t *testing.T) {
	roll := dice(53)
	for n := 1; n <= 8; n++ {
		for k := range 8 {
			texts := roll.small(n)
			if k == 0 {
				texts = roll.long(n)
			}
			b := of(t, texts...)
			s, e := schedule.Of(pieces(texts...))
			if e != api.OK {
				t.Fatalf("error %d", e)
			}
			for _, x := range b.plain.about(false) {
				b.wantAt(t, x)
				want, _ := s.At(number(t, x))
				if got, e := b.made.At(number(t, x)); e != api.OK || rat.Compare(got, want) != 0 {
					t.Fatalf("%v at %v: error %d", texts, x, e)
				}
			}
		}
	}
}

// P21.1, P21.4: pieces that change no slope are no kinks: at the start, in the middle,
// at the end, several in a row, and all of them.
func TestOfPiecesThatChangeNothing(t *testing.T) {
	for _, c := range []struct {
		texts []string
		want  plain
	}{
		{[]string{"0", "1/2", "10", "1/2"}, kinks("0", "0", "1/2")},
		{[]string{"0", "0", "10", "0", "20", "1"}, kinks("0", "0", "0", "20", "0", "1")},
		{[]string{"0", "1", "10", "1/2", "20", "1/2", "30", "1/4"}, kinks("0", "0", "1", "10", "10", "1/2", "30", "20", "1/4")},
		{[]string{"0", "1/2", "10", "1/3", "20", "1/3"}, kinks("0", "0", "1/2", "10", "5", "1/3")},
		{[]string{"0", "1/2", "10", "1/3", "20", "1/2"}, kinks("0", "0", "1/2", "10", "5", "1/3", "20", "25/3", "1/2")},
		{[]string{"0", "1", "1", "1", "2", "1", "3", "1", "4", "1", "5", "1", "6", "1", "7", "1"}, kinks("0", "0", "1")},
		{[]string{"0", "0", "1", "0", "2", "0", "3", "0", "4", "0", "5", "0", "6", "0", "7", "1"}, kinks("0", "0", "0", "7", "0", "1")},
	} {
		b := of(t, c.texts...)
		wantKinks(t, b.made.Kinks(), c.want)
		b.wantAll(t)
	}
}

// P21.1: all curves of up to three pieces of some places and slopes.
func TestOfSmall(t *testing.T) {
	for _, b := range smallCurves(t) {
		b.wantAll(t)
	}
}

// smallCurves are all those of up to three pieces of some places and slopes.
func smallCurves(t *testing.T) []both {
	t.Helper()
	slopes := []string{"0", "1/2", "1"}
	var list []both
	for _, first := range slopes {
		list = append(list, of(t, "0", first))
		for x := 1; x <= 2; x++ {
			for _, second := range slopes {
				list = append(list, of(t, "0", first, strconv.Itoa(x), second))
				for _, third := range slopes {
					list = append(list, of(t, "0", first, strconv.Itoa(x), second, "3", third))
				}
			}
		}
	}
	return list
}

// P21.1: the errors are those of a schedule, in their order.
func TestOfErrors(t *testing.T) {
	four := api.Ratio{Num: []uint64{1, 0, 0, 0}, Den: []uint64{1}}
	half, third := ratio(q("1/2")), ratio(q("1/3"))
	for _, c := range []struct {
		list []api.Piece
		want api.Errno
	}{
		{nil, api.ErrSchedule},
		{[]api.Piece{}, api.ErrSchedule},
		{pieces("0", "1/9", "1", "1/8", "2", "1/7", "3", "1/6", "4", "1/5", "5", "1/4", "6", "1/3", "7", "1/2"), api.OK},
		{pieces("0", "1/9", "1", "1/8", "2", "1/7", "3", "1/6", "4", "1/5", "5", "1/4", "6", "1/3", "7", "1/2", "8", "1"), api.ErrSchedule},
		{make([]api.Piece, 9), api.ErrSchedule},
		{append(make([]api.Piece, 8), api.Piece{Above: four}), api.ErrSchedule},
		{[]api.Piece{{Above: ratio(q("0")), Rate: four}}, api.ErrLong},
		{[]api.Piece{{Above: ratio(q("0")), Rate: half}, {Above: four, Rate: third}}, api.ErrLong},
		{[]api.Piece{{Above: ratio(q("1")), Rate: half}, {Above: four, Rate: third}}, api.ErrLong},
		{[]api.Piece{{Rate: api.Ratio{Den: make([]uint64, 4)}}}, api.ErrLong},
		{[]api.Piece{{}}, api.ErrSchedule},
		{pieces("1", "1/2"), api.ErrSchedule},
		{pieces("-1", "1/2"), api.ErrSchedule},
		{pieces("0", "1/2", "0", "1/3"), api.ErrSchedule},
		{pieces("0", "1/2", "2", "1/3", "1", "1/3"), api.ErrSchedule},
		{pieces("0", "3/2"), api.ErrSchedule},
		{pieces("0", "-1/2"), api.ErrSchedule},
		{[]api.Piece{{Above: ratio(q("0")), Rate: api.Ratio{Num: []uint64{2}, Den: []uint64{4}}}}, api.ErrSchedule},
		{[]api.Piece{{Above: api.Ratio{Den: []uint64{2}}, Rate: half}}, api.ErrSchedule},
		{[]api.Piece{{Above: ratio(q("0")), Rate: half}, {Above: api.Ratio{Num: []uint64{5, 0}, Den: []uint64{1}}, Rate: half}}, api.ErrSchedule},
	} {
		c1, e := curve.Of(c.list)
		s, err := schedule.Of(c.list)
		if e != c.want || e != err || (c1 == nil) != (e != api.OK) || (s == nil) != (e != api.OK) {
			t.Errorf("%v: error %d, wanted %d", c.list, e, c.want)
		}
	}
}

// P21.4: each number of a kink is normal, and the kinks rise; the first one is at 0.
func TestKinksAreNormal(t *testing.T) {
	for _, b := range someCurves(t) {
		list := b.made.Kinks()
		for i, k := range list {
			for _, r := range []api.Ratio{k.X, k.Y, k.Slope} {
				if said := ofRatio(r); said == nil || said.Sign() < 0 {
					t.Fatalf("%v is not normal", r)
				}
			}
			if i > 0 && ofRatio(k.X).Cmp(ofRatio(list[i-1].X)) <= 0 || i == 0 && (ofRatio(k.X).Sign() != 0 || ofRatio(k.Y).Sign() != 0) {
				t.Fatalf("the kink %d is at %v", i, k.X)
			}
		}
	}
}
