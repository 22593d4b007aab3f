package traits_test

import (
	"math"
	"testing"

	"tollbook/api"
	"tollbook/traits"
)

func wantHolds(t *testing.T, list nodes, f api.Facts, want bool) {
	t.Helper()
	if is, err := traits.Holds(list, f); is != want || err != api.OK {
		t.Errorf("Holds(%v, %v) is %t, %d", list, f, is, err)
	}
}

func wantSlowHolds(t *testing.T, list nodes, f api.Facts) {
	t.Helper()
	wantHolds(t, list, f, len(list) == 0 || only(t, list).holds(f))
}

// P13.3: the chapter's examples.
func TestHoldsExamples(t *testing.T) {
	f := api.Facts{Buyer: []string{"business", "eu"}, Line: []string{"book"}, Amount: 1250, Digits: 2, Quantity: 3}
	wantHolds(t, buyer("business"), f, true)
	wantHolds(t, and(buyer("eu"), not(line("food"))), f, true)
	wantHolds(t, or(line("food"), buyer("x")), f, false)
	wantHolds(t, amount(api.OpBelow, 125, 1), f, false)
	wantHolds(t, amount(api.OpMost, 125, 1), f, true)
	wantHolds(t, amount(api.OpAbove, 12499999999, 9), f, true)
	wantHolds(t, quantity(api.OpLeast, 3, 0), f, true)
	wantHolds(t, quantity(api.OpBelow, 25, 1), f, false)
	wantHolds(t, nil, f, true)
	wantHolds(t, nodes{}, f, true)
	wantHolds(t, nil, api.Facts{}, true)
}

// P13.3: a buyer's traits are the buyer's, a line's the line's; each of MaxNames
// of them is found.
func TestHoldsTraits(t *testing.T) {
	many := manyTraits(16)
	for i, name := range many {
		for _, f := range []api.Facts{{Buyer: many}, {Buyer: many[:i+1]}, {Buyer: many[i:]}, {Buyer: many, Line: []string{"x"}}} {
			wantHolds(t, buyer(name), f, true)
			wantHolds(t, line(name), f, false)
			f.Buyer, f.Line = f.Line, f.Buyer
			wantHolds(t, buyer(name), f, false)
			wantHolds(t, line(name), f, true)
		}
		for _, f := range []api.Facts{{Buyer: many[:i], Line: many[i+1:]}, {Buyer: many[i+1:], Line: many[:i]}, {}} {
			wantHolds(t, buyer(name), f, false)
			wantHolds(t, line(name), f, false)
		}
	}
	f := api.Facts{Buyer: []string{"book"}, Line: []string{"boo", "books"}}
	wantHolds(t, buyer("boo"), f, false)
	wantHolds(t, buyer("books"), f, false)
	wantHolds(t, line("book"), f, false)
	wantHolds(t, line("boo"), f, true)
}

// P13.3: just at a value, just below and just above it, by each Op, with more
// digits than the amount has.
func TestHoldsNear(t *testing.T) {
	for _, c := range []struct {
		units  int64
		digits int
		value  api.Dec
		order  int
	}{
		{1250, 2, api.Dec{Units: 125, Places: 1}, 0},
		{1250, 2, api.Dec{Units: 12499999999, Places: 9}, 1},
		{1250, 2, api.Dec{Units: 12500000001, Places: 9}, -1},
		{1249, 2, api.Dec{Units: 125, Places: 1}, -1},
		{1251, 2, api.Dec{Units: 125, Places: 1}, 1},
		{12500, 3, api.Dec{Units: 125, Places: 1}, 0},
		{125000, 4, api.Dec{Units: 125, Places: 1}, 0},
		{125001, 4, api.Dec{Units: 125, Places: 1}, 1},
		{124999, 4, api.Dec{Units: 125, Places: 1}, -1},
		{12, 0, api.Dec{Units: 125, Places: 1}, -1},
		{13, 0, api.Dec{Units: 125, Places: 1}, 1},
		{12, 0, api.Dec{Units: 12}, 0},
		{0, 0, api.Dec{}, 0},
		{0, 4, api.Dec{}, 0},
		{0, 4, api.Dec{Units: 1, Places: 9}, -1},
		{1, 4, api.Dec{Units: 1, Places: 4}, 0},
		{1, 4, api.Dec{}, 1},
		{math.MaxInt64, 0, api.Dec{Units: math.MaxInt64}, 0},
		{math.MaxInt64 - 1, 0, api.Dec{Units: math.MaxInt64}, -1},
		{math.MaxInt64, 0, api.Dec{Units: math.MaxInt64 - 1}, 1},
		{math.MaxInt64, 4, api.Dec{Units: math.MaxInt64, Places: 4}, 0},
		{math.MaxInt64, 4, api.Dec{Units: math.MaxInt64, Places: 5}, 1},
		{math.MaxInt64, 4, api.Dec{Units: math.MaxInt64, Places: 3}, -1},
		{math.MaxInt64, 0, api.Dec{Units: math.MaxInt64, Places: 9}, 1},
		{9223372036, 0, api.Dec{Units: 9223372036854775807, Places: 9}, -1},
		{9223372037, 0, api.Dec{Units: 9223372036854775807, Places: 9}, 1},
		{92233720368547, 4, api.Dec{Units: 9223372036854775807, Places: 9}, -1},
		{92233720368548, 4, api.Dec{Units: 9223372036854775807, Places: 9}, 1},
	} {
		f := api.Facts{Amount: c.units, Digits: c.digits}
		wantHolds(t, amount(api.OpBelow, c.value.Units, c.value.Places), f, c.order < 0)
		wantHolds(t, amount(api.OpMost, c.value.Units, c.value.Places), f, c.order <= 0)
		wantHolds(t, amount(api.OpAbove, c.value.Units, c.value.Places), f, c.order > 0)
		wantHolds(t, amount(api.OpLeast, c.value.Units, c.value.Places), f, c.order >= 0)
	}
}

// P13.3: many amounts and quantities against many values; what the other one is
// plays no part, nor do Digits for quantities.
func TestHoldsNumbers(t *testing.T) {
	numbers := []int64{0, 1, 2, 3, 9, 10, 11, 99, 100, 101, 124, 125, 126, 1249, 1250, 1251, 9999, 10000, 10001, 92233720368547, 92233720368548, 922337203685477, 922337203685478, 922337203685477580, 922337203685477581, 1 << 53, 1<<53 + 1, 1<<62 - 1, 1 << 62, math.MaxInt64 - 1, math.MaxInt64}
	values := []api.Dec{{}, {Units: 1}, {Units: 2}, {Units: 10}, {Units: 1, Places: 9}, {Units: 999999999, Places: 9}, {Units: 1000000001, Places: 9}, {Units: 125, Places: 1}, {Units: 12499999999, Places: 9}, {Units: 12500000001, Places: 9}, {Units: 1, Places: 4}, {Units: 1, Places: 5}, {Units: 25, Places: 1}, {Units: 9, Places: 1}, {Units: 1 << 53}, {Units: 1<<53 + 1}, {Units: math.MaxInt64}, {Units: math.MaxInt64 - 1}}
	for places := 1; places <= 9; places++ {
		values = append(values, api.Dec{Units: math.MaxInt64, Places: places}, api.Dec{Units: math.MaxInt64 - 1, Places: places})
	}
	for _, n := range numbers {
		for _, d := range values {
			for op := api.OpBelow; op <= api.OpLeast; op++ {
				for digits := range 5 {
					wantSlowHolds(t, amount(op, d.Units, d.Places), api.Facts{Amount: n, Digits: digits, Quantity: 7})
					wantSlowHolds(t, quantity(op, d.Units, d.Places), api.Facts{Amount: 7, Digits: digits, Quantity: n})
				}
			}
		}
	}
}

// P13.3: Or, And and Not of two or three tests of which each holds or does not.
func TestHoldsKids(t *testing.T) {
	is := map[bool]nodes{true: amount(api.OpLeast, 0, 0), false: buyer("none")}
	f := api.Facts{Buyer: []string{"a"}, Amount: 5}
	for _, a := range []bool{false, true} {
		wantHolds(t, is[a], f, a)
		wantHolds(t, not(is[a]), f, !a)
		wantHolds(t, nots(2, is[a]), f, a)
		wantHolds(t, nots(15, is[a]), f, !a)
		for _, b := range []bool{false, true} {
			wantHolds(t, or(is[a], is[b]), f, a || b)
			wantHolds(t, and(is[a], is[b]), f, a && b)
			for _, c := range []bool{false, true} {
				wantHolds(t, or(is[a], is[b], is[c]), f, a || b || c)
				wantHolds(t, and(is[a], is[b], is[c]), f, a && b && c)
				wantHolds(t, or(is[a], and(is[b], is[c])), f, a || b && c)
				wantHolds(t, or(and(is[a], is[b]), is[c]), f, a && b || c)
				wantHolds(t, and(is[a], or(is[b], is[c])), f, a && (b || c))
				wantHolds(t, and(or(is[a], is[b]), is[c]), f, (a || b) && c)
				wantHolds(t, not(or(is[a], not(and(is[b], is[c])))), f, !(a || !(b && c)))
				wantHolds(t, and(not(or(is[a], is[b])), not(is[c])), f, !(a || b) && !c)
			}
		}
	}
	// One among many that is otherwise, at each place.
	for at := range 63 {
		for _, most := range []bool{false, true} {
			list := times(63, is[most])
			list[at] = is[!most]
			wantHolds(t, or(list...), f, true)
			wantHolds(t, and(list...), f, false)
		}
	}
	wantHolds(t, or(times(63, is[false])...), f, false)
	wantHolds(t, and(times(63, is[true])...), f, true)
}

// P13.3: all small conditions and many great ones.
func TestHoldsAll(t *testing.T) {
	t.Parallel()
	facts := someFacts()
	for i, list := range smallConditions() {
		for j := range 6 {
			wantSlowHolds(t, list, facts[(i+31*j)%len(facts)])
		}
	}
	both := [2]int{}
	for _, list := range greatConditions(1500) {
		one := only(t, list)
		for i := range 40 {
			f := facts[i*5%len(facts)]
			want := one.holds(f)
			wantHolds(t, list, f, want)
			if want {
				both[1]++
			} else {
				both[0]++
			}
		}
	}
	if min(both[0], both[1]) < 5000 {
		t.Errorf("%d hold, %d do not", both[1], both[0])
	}
}

// P13.3: what is no condition is told ahead of facts that may not be.
func TestHoldsOrder(t *testing.T) {
	for _, list := range []nodes{or(), buyer("A"), amount(5, 0, 0), nots(16, buyer("a")), or(times(64, buyer("a"))...)} {
		for _, f := range []api.Facts{{}, {Digits: 5}, {Amount: -1}, {Buyer: []string{"A"}}} {
			if is, err := traits.Holds(list, f); is || err != api.ErrTree {
				t.Errorf("Holds(%v, %v) is %t, %d", few(list), f, is, err)
			}
		}
	}
}
