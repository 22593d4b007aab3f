package schedule_test

import (
	"math/big"
	"slices"
	"testing"

	"tollbook/api"
	"tollbook/rat"
	"tollbook/schedule"
)

// at is what a schedule tells of an amount that may be.
func at(t *testing.T, s *schedule.Schedule, base *big.Rat) *big.Rat {
	t.Helper()
	got, e := s.At(number(t, base))
	told := ofRatio(got.Plain())
	if e != api.OK || told == nil {
		t.Fatalf("At of %d limbs: error %d", long(base), e)
	}
	return told
}

// sorted are amounts about a schedule's bounds, rising.
func sorted(p plain) []*big.Rat {
	list := p.bases()
	slices.SortFunc(list, func(a, b *big.Rat) int { return a.Cmp(b) })
	return list
}

// P18.5: At(0) is 0.
func TestAtNought(t *testing.T) {
	for _, p := range someLevels() {
		if got, e := made(t, p).At(rat.Rat{}); e != api.OK || got.Sign() != 0 {
			t.Errorf("error %d", e)
		}
	}
}

// P18.5: up to the next bound At goes up by Slope; and from any amount to a greater
// one by 0 to how far they lie apart.
func TestAtGoesUp(t *testing.T) {
	straight, bent := 0, 0
	for _, p := range someLevels() {
		s := made(t, p)
		list := sorted(p)
		for i, a := range list {
			slope, _ := s.Slope(number(t, a))
			next, isNext := s.Next(number(t, a))
			atA := at(t, s, a)
			for _, b := range list[i:] {
				rise, far := minus(at(t, s, b), atA), minus(b, a)
				if rise.Sign() < 0 || rise.Cmp(far) > 0 {
					t.Fatalf("from %v to %v: %v", a, b, rise)
				}
				if isNext && ofRatio(next.Plain()).Cmp(b) < 0 {
					bent++
					continue
				}
				straight++
				if rise.Cmp(times(ofRatio(slope.Plain()), far)) != 0 {
					t.Fatalf("from %v to %v: %v", a, b, rise)
				}
			}
		}
	}
	if straight < 1000 || bent < 1000 {
		t.Errorf("%d and %d", straight, bent)
	}
}

// P18.5: from bound to bound, as Next tells them, all pieces are gone through.
func TestNextGoesThrough(t *testing.T) {
	for _, p := range someLevels() {
		s := made(t, p)
		base, _ := rat.Small(-1, 1)
		for _, l := range p {
			next, is := s.Next(base)
			if !is {
				t.Fatal("none")
			}
			wantNumber(t, next, l.above, "Next")
			slope, _ := s.Slope(next)
			wantNumber(t, slope, l.rate, "Slope")
			base = next
		}
		if _, is := s.Next(base); is {
			t.Error("one more")
		}
	}
}

// P18.5: with one piece At is its Rate times base.
func TestOnePiece(t *testing.T) {
	for _, rate := range []*big.Rat{q("0"), q("1"), q("1/3"), q("19/100"), over(two(192, -2), two(192, -1)), over(q("1"), two(191, 0))} {
		s := made(t, plain{{above: q("0"), rate: rate}})
		for _, base := range append(exampleLevels().bases(), longBases()...) {
			if at(t, s, base).Cmp(times(rate, base)) != 0 {
				t.Errorf("%v of %d limbs", rate, long(base))
			}
		}
	}
}

// someBrackets are of all counts.
func someBrackets() [][]api.Bracket {
	roll := dice(97)
	all := [][]api.Bracket{example(), brackets(0, 0), brackets(0, 100), brackets(0, 10, 100, 10)}
	for n := 1; n <= mostBrackets; n++ {
		var list []api.Bracket
		at := int64(0)
		for range n {
			list = append(list, api.Bracket{Above: dec(at, 0), Percent: dec(int64(roll.below(101)), 0)})
			at += 1 + int64(roll.below(1000))
		}
		list[n-1].Percent = dec(99999999999, 9)
		if n > 1 {
			list[n-1].Above = dec(at*1000000000+1, 9)
		}
		all = append(all, list)
	}
	return all
}

// P18.5: pieces that Pieces told, of brackets or of a schedule, are taken by Of; and
// with the unit u they come at u times x to u times what they come to at x.
func TestUnitsScale(t *testing.T) {
	roll := dice(101)
	for _, list := range someBrackets() {
		one := ofUnit(t, list, q("1"))
		for _, u := range []*big.Rat{q("1"), q("100"), q("10000"), q("1/3"), q("22/7"), two(100, 0), over(q("1"), two(100, 0)), over(roll.whole(2), roll.whole(2))} {
			s := ofUnit(t, list, u)
			for _, x := range ofBrackets(list).bases() {
				if at(t, s, times(u, x)).Cmp(times(u, at(t, one, x))) != 0 {
					t.Fatalf("%v with the unit %v at %v", list, u, x)
				}
			}
		}
	}
}

// ofUnit makes the schedule of brackets, and once more of its own pieces.
func ofUnit(t *testing.T, list []api.Bracket, unit *big.Rat) *schedule.Schedule {
	t.Helper()
	told, e := schedule.Pieces(list, number(t, unit))
	if e != api.OK {
		t.Fatalf("Pieces: error %d", e)
	}
	s, e := schedule.Of(told)
	if e != api.OK {
		t.Fatalf("Of what Pieces told: error %d", e)
	}
	again, e := schedule.Of(s.Pieces())
	if e != api.OK {
		t.Fatalf("Of a schedule's Pieces: error %d", e)
	}
	p, _ := plainOf(told)
	wantPieces(t, again.Pieces(), p)
	return again
}
