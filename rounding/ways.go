package rounding

import (
	"tollbook/api"
	"tollbook/nat"
	"tollbook/whole"
)

// way is how a mode rounds.
type way struct {
	mode api.Mode
	name string
	// rises is asked of numbers between two whole ones: whether one goes to the
	// greater of them. Its half is -1, 0 or 1, as the number lies below the
	// middle, in it or above it; odd is whether the lesser one is.
	rises func(half int, odd bool) bool
}

func ways() []way {
	return []way{
		{api.ModeFloor, "floor", func(int, bool) bool { return false }},
		{api.ModeCeil, "ceil", func(int, bool) bool { return true }},
		{api.ModeUp, "up", func(half int, _ bool) bool { return half >= 0 }},
		{api.ModeDown, "down", func(half int, _ bool) bool { return half > 0 }},
		{api.ModeEven, "even", func(half int, odd bool) bool { return half > 0 || half == 0 && odd }},
	}
}

func wayOf(m api.Mode) (way, bool) {
	for _, w := range ways() {
		if w.mode == m {
			return w, true
		}
	}
	return way{}, false
}

// rounded is what num over den comes to; den is above 0, and both need not be
// in lowest terms.
func (w way) rounded(num whole.Int, den nat.Nat) whole.Int {
	floor, rest, _ := whole.DivMod(num, above(den))
	if rest.Sign() == 0 {
		return floor
	}
	twice, _ := nat.Left(rest.Abs(), 1)
	if !w.rises(nat.Compare(twice, den), isOdd(floor)) {
		return floor
	}
	next, _ := whole.Add(floor, whole.Small(1))
	return next
}

func isOdd(i whole.Int) bool {
	_, rest, _ := nat.DivMod(i.Abs(), nat.Small(2))
	return !rest.IsZero()
}

func above(n nat.Nat) whole.Int {
	return whole.New(false, n)
}
