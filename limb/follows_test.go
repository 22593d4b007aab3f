package limb_test

import (
	"slices"
	"testing"

	"tollbook/api"
	"tollbook/limb"
)

// P1.7: what the calls say of one another, with no reckoning beside theirs.

func TestLessTakesAwayWhatPlusPutTo(t *testing.T) {
	lists := allLists()
	for _, a := range lists {
		for _, b := range lists {
			sum := limb.Plus(a, b)
			if !slices.Equal(sum, limb.Plus(b, a)) {
				t.Errorf("%x + %x is not the same from both sides", short(a), short(b))
			}
			if got, e := limb.Less(sum, b); e != api.OK || !slices.Equal(got, limb.Trim(a)) {
				t.Errorf("%x + %x - the second: %x, error %d", short(a), short(b), short(got), e)
			}
			if limb.Compare(a, sum) > 0 || limb.Compare(b, sum) > 0 {
				t.Errorf("%x + %x is below one of them", short(a), short(b))
			}
		}
	}
}

func TestOverUndoesTimes(t *testing.T) {
	x := mixed(5)
	for _, l := range allLists() {
		for range 30 {
			by := max(1, x.limb())
			more := x.limb()
			got, rest, e := limb.Over(limb.Times(l, by, more), by)
			if e != api.OK {
				t.Fatalf("Over(.., %d): error %d", by, e)
			}
			if more < by && (rest != more || !slices.Equal(got, limb.Trim(l))) {
				t.Errorf("%x * %d + %d over %d: %x, rest %d", short(l), by, more, by, short(got), rest)
			}
			if rest >= by || !slices.Equal(limb.Times(got, by, rest), limb.Times(l, by, more)) {
				t.Errorf("%x * %d + %d: quotient and rest don't make it again", short(l), by, more)
			}
		}
		for _, by := range []uint64{1, 2, m} {
			if got, rest, e := limb.Over(limb.Times(l, by, by-1), by); e != api.OK || rest != by-1 || !slices.Equal(got, limb.Trim(l)) {
				t.Errorf("%x * %d + %d: %x, rest %d, error %d", short(l), by, by-1, short(got), rest, e)
			}
		}
	}
}

func TestRightUndoesLeft(t *testing.T) {
	for _, l := range allLists() {
		for _, n := range moves() {
			moved, e := limb.Left(l, n)
			if e != api.OK {
				continue
			}
			if back, e := limb.Right(moved, n); e != api.OK || !slices.Equal(back, limb.Trim(l)) {
				t.Errorf("%x left and right by %d: %x, error %d", short(l), n, short(back), e)
			}
			digits := limb.Bits(l)
			if digits > 0 {
				digits += n
			}
			if limb.Bits(moved) != digits {
				t.Errorf("%x left by %d: %d digits, not %d", short(l), n, limb.Bits(moved), digits)
			}
		}
	}
}
