package schedule_test

import (
	"math/big"
	"slices"
	"testing"

	"tollbook/api"
	"tollbook/schedule"
)

// wantOf holds Of, and what the schedule tells of its pieces, against the plain ways.
func wantOf(t *testing.T, list []api.Piece) {
	t.Helper()
	p, want := plainOf(list)
	s, e := schedule.Of(list)
	if e != want || (s == nil) != (e != api.OK) {
		t.Fatalf("Of(%.200v): error %d, wanted %d", list, e, want)
	}
	wantPieces(t, s.Pieces(), p)
}

// someRatios are such as are normal and such as are not, from 0 to 1 and beyond, of
// up to three limbs.
func someRatios() []api.Ratio {
	list := []api.Ratio{
		{}, {Den: []uint64{2}}, {Neg: true, Den: []uint64{1}}, {Num: []uint64{1}}, {Num: []uint64{0}, Den: []uint64{1}}, {Num: []uint64{2}, Den: []uint64{4}}, {Num: []uint64{1, 0}, Den: []uint64{2}}, {Num: []uint64{1}, Den: []uint64{2, 0}}, {Den: []uint64{1, 0}},
		{Num: []uint64{1}, Den: []uint64{0}}, {Num: []uint64{2}, Den: []uint64{2}}, {Num: []uint64{m, m, m}, Den: []uint64{m, m, m}}, {Num: []uint64{1, 0, 0}, Den: []uint64{1}}, {Num: []uint64{1}, Den: []uint64{1, 0, 0}},
	}
	for _, r := range []*big.Rat{q("0"), q("1"), q("1/2"), q("2/3"), q("3/2"), q("-1/2"), over(two(192, -2), two(192, -1)), over(two(192, -1), two(192, -2)), two(192, -1)} {
		list = append(list, ratio(r))
	}
	return list
}

// P18.2: the chapter's examples.
func TestOfExamples(t *testing.T) {
	half, third, nought, one := ratio(q("1/2")), ratio(q("1/3")), ratio(q("0")), ratio(q("1"))
	for _, c := range []struct {
		list []api.Piece
		want api.Errno
	}{
		{nil, api.ErrSchedule}, {make([]api.Piece, 9), api.ErrSchedule}, {[]api.Piece{{Above: nought, Rate: ratio(q("3/2"))}}, api.ErrSchedule}, {[]api.Piece{{Above: one, Rate: half}}, api.ErrSchedule}, {[]api.Piece{{Above: nought, Rate: half}, {Above: nought, Rate: third}}, api.ErrSchedule},
		{[]api.Piece{{Above: nought, Rate: api.Ratio{Neg: true, Num: []uint64{1}, Den: []uint64{2}}}}, api.ErrSchedule}, {[]api.Piece{{Above: nought, Rate: api.Ratio{Num: []uint64{2}, Den: []uint64{4}}}}, api.ErrSchedule}, {[]api.Piece{{Above: nought, Rate: api.Ratio{Num: []uint64{1}, Den: []uint64{1, 2, 3, 4}}}}, api.ErrLong},
		{[]api.Piece{{Above: nought, Rate: half}}, api.OK}, {exampleLevels().pieces(), api.OK},
	} {
		s, e := schedule.Of(c.list)
		if e != c.want || (s == nil) != (e != api.OK) {
			t.Errorf("Of(%v): error %d, wanted %d", c.list, e, c.want)
		}
		wantOf(t, c.list)
	}
}

// P18.2: all pairs of some ratios as one piece, and all of these behind one at 0 that
// may be, and ahead of one.
func TestOfAllKinds(t *testing.T) {
	first := exampleLevels().pieces()[0]
	fits := 0
	for _, above := range someRatios() {
		for _, rate := range someRatios() {
			piece := api.Piece{Above: above, Rate: rate}
			wantOf(t, []api.Piece{piece})
			wantOf(t, []api.Piece{first, piece})
			wantOf(t, []api.Piece{piece, {Above: ratio(q("1")), Rate: first.Rate}})
			wantOf(t, []api.Piece{first, piece, {Above: ratio(q("1")), Rate: first.Rate}})
			if _, e := schedule.Of([]api.Piece{first, piece}); e == api.OK {
				fits++
			}
		}
	}
	// Seven bounds above 0, five rates.
	if fits != 7*5 {
		t.Errorf("%d of two may be", fits)
	}
}

// P18.2: all pairs of pieces of some normal ratios: in which order they stand.
func TestOfInOrder(t *testing.T) {
	var pool []api.Piece
	for _, above := range []string{"0", "1/3", "1/2", "1", "5", "-1", "18446744073709551616", "1/18446744073709551617"} {
		for _, rate := range []string{"0", "1/7", "1", "8/7", "-1/7"} {
			pool = append(pool, levels(above, rate).pieces()...)
		}
	}
	for _, a := range pool {
		for _, b := range pool {
			wantOf(t, []api.Piece{a, b})
			wantOf(t, []api.Piece{pool[0], a, b})
		}
	}
}

// P18.2: from none to ten pieces, and very many.
func TestOfCount(t *testing.T) {
	var many plain
	for i := range int64(10000) {
		many = append(many, level{above: big.NewRat(i, 3), rate: big.NewRat(i%8, 7)})
	}
	list := many.pieces()
	for _, n := range []int{0, 1, 2, 7, 8, 9, 10, 16, 256, 264, 10000} {
		want := api.OK
		if n < 1 || n > 8 {
			want = api.ErrSchedule
		}
		if _, e := schedule.Of(list[:n]); e != want {
			t.Errorf("%d pieces: error %d", n, e)
		}
		wantOf(t, list[:n])
	}
}

// P18.2: rates of 0 and 1, just above them and just below, up to three limbs.
func TestRates(t *testing.T) {
	for _, c := range []struct {
		rate *big.Rat
		want api.Errno
	}{
		{q("0"), api.OK}, {q("1"), api.OK}, {over(q("1"), two(192, -1)), api.OK}, {over(two(192, -2), two(192, -1)), api.OK}, {over(two(128, -1), two(128, 0)), api.OK}, {q("18446744073709551615/18446744073709551616"), api.OK},
		{over(two(192, -1), two(192, -2)), api.ErrSchedule}, {over(two(128, 1), two(128, 0)), api.ErrSchedule}, {q("18446744073709551616/18446744073709551615"), api.ErrSchedule}, {q("2"), api.ErrSchedule}, {two(192, -1), api.ErrSchedule},
		{over(q("-1"), two(192, -1)), api.ErrSchedule}, {q("-1"), api.ErrSchedule}, {minusOf(two(192, -1)), api.ErrSchedule}, {over(q("1"), two(192, 0)), api.ErrLong}, {over(q("-1"), two(192, 0)), api.ErrLong}, {two(192, 0), api.ErrLong},
	} {
		for n := range 8 {
			p := plain{}
			for i := range n {
				p = append(p, level{above: big.NewRat(int64(i), 1), rate: q("1/2")})
			}
			p = append(p, level{above: big.NewRat(int64(n), 1), rate: c.rate})
			if _, e := schedule.Of(p.pieces()); e != c.want {
				t.Errorf("%v behind %d: error %d, wanted %d", c.rate, n, e, c.want)
			}
			wantOf(t, p.pieces())
		}
	}
}

// lists are the four of a piece.
func lists(p *api.Piece) [4]*[]uint64 {
	return [4]*[]uint64{&p.Above.Num, &p.Above.Den, &p.Rate.Num, &p.Rate.Den}
}

// P18.2: each list of each piece may have three limbs; one that has more is ErrLong,
// noughts at its end too, ahead of all that pieces may not be.
func TestOfLong(t *testing.T) {
	roll := dice(17)
	right := roll.long(8).pieces()
	wantOf(t, right)
	if _, e := schedule.Of(right); e != api.OK {
		t.Fatalf("error %d", e)
	}
	longs := [][]uint64{{1, 2, 3, 4}, {0, 0, 0, 1}, {1, 0, 0, 0}, {0, 0, 0, 0}, make([]uint64, 5), make([]uint64, 1025), make([]uint64, 1<<17), slices.Repeat([]uint64{m}, 1<<12)}
	for i := range right {
		for k := range 4 {
			for _, list := range longs {
				wrong := slices.Clone(right)
				*lists(&wrong[i])[k] = list
				for _, n := range []int{8, i + 1} {
					if s, e := schedule.Of(wrong[:n]); s != nil || e != api.ErrLong {
						t.Errorf("the list %d of the piece %d: error %d", k, i, e)
					}
				}
				wantOf(t, wrong[i:])
				// All others may not be either.
				for j := range wrong {
					if j != i {
						wrong[j] = api.Piece{Rate: api.Ratio{Neg: true}}
					}
				}
				if _, e := schedule.Of(wrong); e != api.ErrLong {
					t.Errorf("the list %d of the piece %d: error %d", k, i, e)
				}
				if _, e := schedule.Of(append(wrong, wrong[0])); e != api.ErrSchedule {
					t.Errorf("nine pieces: error %d", e)
				}
			}
		}
	}
}

// P18.2: a list of up to three limbs with noughts at its end, or with something else
// that is not normal, in each place.
func TestOfNotNormal(t *testing.T) {
	roll := dice(19)
	right := append(roll.small(7), level{above: q("1000"), rate: q("1/3")}).pieces()
	for i := range right {
		for k := range 4 {
			for _, more := range []int{1, 2} {
				wrong := slices.Clone(right)
				list := lists(&wrong[i])[k]
				*list = append(slices.Clone(*list), make([]uint64, more)...)
				want := api.ErrSchedule
				if len(*list) > 3 {
					want = api.ErrLong
				}
				if _, e := schedule.Of(wrong); e != want {
					t.Errorf("the list %d of the piece %d: error %d", k, i, e)
				}
				wantOf(t, wrong)
			}
		}
		for _, r := range someRatios() {
			above, rate := slices.Clone(right), slices.Clone(right)
			above[i].Above, rate[i].Rate = r, r
			wantOf(t, above)
			wantOf(t, rate)
		}
	}
}

// P18.2: any schedule is told as it was made, as often as it is asked.
func TestPiecesOfSchedules(t *testing.T) {
	for _, p := range someLevels() {
		s := made(t, p)
		for range 3 {
			wantPieces(t, s.Pieces(), p)
		}
		wantOf(t, p.pieces())
	}
}
