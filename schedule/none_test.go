package schedule_test

import (
	"testing"

	"tollbook/api"
	"tollbook/rat"
	"tollbook/schedule"
)

// P18.2 to P18.4, R4: schedules that are nil, or that Of did not make; ErrNil goes
// ahead of all else.
func TestNoSchedule(t *testing.T) {
	refused, _ := schedule.Of(nil)
	for _, s := range []*schedule.Schedule{nil, {}, new(schedule.Schedule), refused} {
		if len(s.Pieces()) != 0 {
			t.Error("pieces of no schedule")
		}
		for _, base := range append(exampleLevels().bases(), two(32768, -1), two(32768, 0), two(65536, -1), over(q("1"), two(65536, -1))) {
			above := number(t, base)
			for _, asked := range []rat.Rat{above, above.Neg()} {
				comes, one := s.At(asked)
				slope, two := s.Slope(asked)
				next, is := s.Next(asked)
				if one != api.ErrNil || two != api.ErrNil || is || comes.Sign() != 0 || slope.Sign() != 0 || next.Sign() != 0 {
					t.Fatalf("errors %d, %d; %v", one, two, is)
				}
			}
		}
	}
}

// R2, R4: what Of answers beside an error is a schedule that is not there.
func TestRefused(t *testing.T) {
	for _, list := range [][]api.Piece{nil, {{}}, make([]api.Piece, 9), levels("1", "1/2").pieces(), levels("0", "2").pieces(), {{Above: api.Ratio{Num: make([]uint64, 4)}}}} {
		s, e := schedule.Of(list)
		if s != nil || e == api.OK || len(s.Pieces()) != 0 {
			t.Errorf("%v: error %d", list, e)
		}
	}
}
