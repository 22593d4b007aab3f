package schedule

import (
	"tollbook/api"
	"tollbook/decimal"
	"tollbook/rat"
)

const hundred = 100

// ofBrackets are the steps of brackets that may be, with the unit 1.
func ofBrackets(brackets []api.Bracket) ([]step, api.Errno) {
	if !isCount(len(brackets)) {
		return nil, api.ErrSchedule
	}
	steps := make([]step, len(brackets))
	for i, b := range brackets {
		above, errAbove := decimal.Rat(b.Above)
		percent, errPercent := decimal.Rat(b.Percent)
		if errAbove != api.OK || errPercent != api.OK {
			return nil, api.ErrSchedule
		}
		steps[i] = step{above: above, rate: hundredth(percent)}
	}
	return steps, check(steps)
}

// ofPieces are the steps of pieces that may be. How long they are is looked at
// ahead of what they say: long lists need not be gone through.
func ofPieces(pieces []api.Piece) ([]step, api.Errno) {
	if !isCount(len(pieces)) {
		return nil, api.ErrSchedule
	}
	for _, p := range pieces {
		if isLong(p.Above) || isLong(p.Rate) {
			return nil, api.ErrLong
		}
	}
	steps := make([]step, len(pieces))
	for i, p := range pieces {
		above, errAbove := rat.Of(p.Above)
		rate, errRate := rat.Of(p.Rate)
		if errAbove != api.OK || errRate != api.OK {
			return nil, api.ErrSchedule
		}
		steps[i] = step{above: above, rate: rate}
	}
	return steps, check(steps)
}

// check tells whether steps may be. The first one begins at 0, and they rise: so
// none begins below 0.
func check(steps []step) api.Errno {
	one, _ := rat.Small(1, 1)
	for i, s := range steps {
		switch {
		case i == 0 && s.above.Sign() != 0,
			i > 0 && rat.Compare(steps[i-1].above, s.above) >= 0,
			s.rate.Sign() < 0 || rat.Compare(s.rate, one) > 0:
			return api.ErrSchedule
		}
	}
	return api.OK
}

func plain(steps []step) []api.Piece {
	pieces := make([]api.Piece, len(steps))
	for i, s := range steps {
		pieces[i] = api.Piece{Above: s.above.Plain(), Rate: s.rate.Plain()}
	}
	return pieces
}

func isCount(n int) bool {
	return n >= 1 && n <= api.MaxBrackets
}

func isLong(r api.Ratio) bool {
	return max(len(r.Num), len(r.Den)) > api.MaxFigure
}

func hundredth(percent rat.Rat) rat.Rat {
	by, _ := rat.Small(hundred, 1)
	rate, _ := rat.Quo(percent, by)
	return rate
}
