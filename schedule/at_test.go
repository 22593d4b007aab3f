package schedule_test

import (
	"math/big"
	"testing"

	"tollbook/api"
	"tollbook/schedule"
)

// P18.3, P18.4: the chapter's examples.
func TestAskedExamples(t *testing.T) {
	s, p := made(t, exampleLevels()), exampleLevels()
	for _, c := range [][2]string{{"0", "0"}, {"100", "10"}, {"50", "5"}, {"150", "20"}, {"500", "90"}, {"1000", "901/10"}} {
		got, e := s.At(number(t, q(c[0])))
		if e != api.OK {
			t.Errorf("%v: error %d", c, e)
		}
		wantNumber(t, got, q(c[1]), "At("+c[0]+")")
	}
	for _, c := range [][2]string{{"0", "1/10"}, {"100", "1/5"}, {"199/2", "1/10"}, {"501", "0"}} {
		got, e := s.Slope(number(t, q(c[0])))
		if e != api.OK {
			t.Errorf("%v: error %d", c, e)
		}
		wantNumber(t, got, q(c[1]), "Slope("+c[0]+")")
	}
	for _, c := range [][2]string{{"0", "100"}, {"100", "1001/2"}, {"-1", "0"}} {
		got, is := s.Next(number(t, q(c[0])))
		if !is {
			t.Errorf("%v: none", c)
		}
		wantNumber(t, got, q(c[1]), "Next("+c[0]+")")
	}
	if got, is := s.Next(number(t, q("1001/2"))); is || got.Sign() != 0 {
		t.Error("Next of the last bound")
	}
	for _, c := range []struct {
		base *big.Rat
		want api.Errno
	}{{q("-1"), api.ErrArg}, {two(32768, 0), api.ErrLong}, {two(32768, -1), api.OK}} {
		if got, e := s.At(number(t, c.base)); e != c.want || e != api.OK && got.Sign() != 0 {
			t.Errorf("a base of %d limbs: error %d", long(c.base), e)
		}
	}
	wantAsked(t, s, p, two(32768, 0))
}

// P18.3: small amounts, slice by slice.
func TestAtBySlices(t *testing.T) {
	roll := dice(53)
	for n := 1; n <= 8; n++ {
		for range 8 {
			p := roll.small(n)
			s := made(t, p)
			for sixths := int64(0); sixths < 90; sixths++ {
				base := big.NewRat(sixths, 6)
				got, e := s.At(number(t, base))
				if e != api.OK {
					t.Fatalf("error %d", e)
				}
				wantNumber(t, got, p.bySlices(base, 6), "At")
			}
		}
	}
}

// P18.3: at each bound, just below it and just above, and beyond the last one.
func TestAtAboutBounds(t *testing.T) {
	for _, p := range someLevels() {
		s := made(t, p)
		for _, base := range p.bases() {
			wantAt(t, s, p, base)
		}
	}
}

// longBases have 512 limbs above the line, below it, or both.
func longBases() []*big.Rat {
	roll := dice(61)
	a, b := roll.whole(mostBase), roll.whole(mostBase)
	end := uint(mostBase * limbBits)
	return []*big.Rat{
		two(end, -1), two(end-1, 0), two(end-64, 0), over(q("1"), two(end-1, 0)), over(q("1"), two(end, -1)), over(two(end, -1), two(end, -3)), over(two(end, -3), two(end, -1)), over(two(end, -1), two(end-1, 0)),
		a, over(q("1"), a), over(a, b), over(b, a), over(a, roll.whole(200)), over(roll.whole(3), b), over(roll.whole(mostBase-3), b),
	}
}

// tooLong have 513 limbs, or more up to all that there may be.
func tooLong() []*big.Rat {
	roll := dice(67)
	end := uint(mostBase * limbBits)
	return []*big.Rat{
		two(end, 0), two(end, 1), two(end+63, 1), over(q("1"), two(end, 0)), over(two(end, -1), two(end, 1)), over(two(end, 1), two(end, -1)), over(q("3"), two(end+64, 0)), two(2*end, -1), two(2*end-1, 0), over(q("1"), two(2*end, -1)), over(two(2*end, -1), two(2*end, -3)),
		roll.whole(513), over(roll.whole(513), roll.whole(512)), over(roll.whole(512), roll.whole(513)), over(roll.whole(1024), roll.whole(1024)),
	}
}

// P18.3: what comes of the longest amounts, of pieces as long as they may be; and it
// has at most MaxRatio limbs.
func TestAtOfLong(t *testing.T) {
	t.Parallel()
	most := 0
	for _, p := range longLevels() {
		s := made(t, p)
		for _, base := range longBases() {
			if long(base) != mostBase {
				t.Fatalf("a base of %d limbs", long(base))
			}
			wantAt(t, s, p, base)
			most = max(most, long(p.at(base)))
		}
	}
	if most < 540 || most > api.MaxRatio {
		t.Errorf("%d limbs came up", most)
	}
}

// P18.3: the longest amounts that lie in each piece and at both its ends: near is a
// number with a denominator of 512 limbs that a piece's numbers have nothing with in
// common.
func TestAtOfLongInEachPiece(t *testing.T) {
	roll := dice(71)
	den := roll.whole(mostBase - 6)
	for n := 1; n <= 8; n++ {
		p := roll.long(n)
		s := made(t, p)
		for _, l := range p {
			base := plus(l.above, over(q("1"), den))
			wantAt(t, s, p, base)
			wantAsked(t, s, p, base)
			if base = minus(l.above, over(q("1"), den)); base.Sign() >= 0 {
				wantAt(t, s, p, base)
				wantAsked(t, s, p, base)
			}
		}
	}
}

// P18.3: one limb more is ErrLong; below 0 is ErrArg, however long.
func TestAtErrors(t *testing.T) {
	for _, p := range longLevels()[:6] {
		s := made(t, p)
		for _, base := range tooLong() {
			wantNoAt(t, s, base, api.ErrLong)
			wantNoAt(t, s, minusOf(base), api.ErrArg)
		}
		for _, base := range append(longBases(), q("1"), q("1/2"), q("1/1000000000"), q("100")) {
			wantNoAt(t, s, minusOf(base), api.ErrArg)
		}
	}
}

func wantNoAt(t *testing.T, s *schedule.Schedule, base *big.Rat, want api.Errno) {
	t.Helper()
	if got, e := s.At(number(t, base)); e != want || got.Sign() != 0 {
		t.Errorf("a base of %d limbs: error %d, wanted %d", long(base), e, want)
	}
}

// P18.4: slopes and next bounds at each bound, just below it and just above, beyond
// the last one, and below 0.
func TestAskedAboutBounds(t *testing.T) {
	for _, p := range someLevels() {
		s := made(t, p)
		for _, base := range append(p.bases(), q("0")) {
			wantAsked(t, s, p, base)
			wantAsked(t, s, p, minusOf(base))
		}
	}
}

// P18.4: bases may be of any length, on both sides of 0.
func TestAskedOfLong(t *testing.T) {
	t.Parallel()
	all := longLevels()
	var schedules []*schedule.Schedule
	for _, p := range all {
		schedules = append(schedules, made(t, p))
	}
	for _, base := range append(longBases(), tooLong()...) {
		above := number(t, base)
		for i, s := range schedules {
			wantAskedOf(t, s, all[i], base, above)
			wantAskedOf(t, s, all[i], minusOf(base), above.Neg())
		}
	}
}

// P18.4: small amounts, all of a row.
func TestAskedSmall(t *testing.T) {
	roll := dice(73)
	for n := 1; n <= 8; n++ {
		for range 6 {
			p := roll.small(n)
			s := made(t, p)
			for twelfths := int64(-20); twelfths < 200; twelfths++ {
				wantAsked(t, s, p, big.NewRat(twelfths, 12))
			}
		}
	}
}
