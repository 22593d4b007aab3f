package traits_test

import (
	"math"
	"slices"
	"strings"
	"testing"

	"tollbook/api"
	"tollbook/traits"
)

// wantFit asks Holds too, which answers nothing beside an error.
func wantFit(t *testing.T, f api.Facts) {
	t.Helper()
	if err := traits.Fit(f); err != api.OK {
		t.Errorf("Fit(%v) is %d", f, err)
	}
	if is, err := traits.Holds(nil, f); !is || err != api.OK {
		t.Errorf("Holds(nothing, %v) is %t, %d", f, is, err)
	}
}

func wantNoFit(t *testing.T, f api.Facts) {
	t.Helper()
	if err := traits.Fit(f); err != api.ErrTrait {
		t.Errorf("Fit(%v) is %d", f, err)
	}
	for _, list := range []nodes{nil, buyer("a"), not(buyer("a")), amount(api.OpLeast, 0, 0)} {
		if is, err := traits.Holds(list, f); is || err != api.ErrTrait {
			t.Errorf("Holds(%v, %v) is %t, %d", list, f, is, err)
		}
	}
	if is, err := traits.Holds(or(), f); is || err != api.ErrTree {
		t.Errorf("Holds of no tree, %v is %t, %d", f, is, err)
	}
}

// withTraits are ordinary facts with those traits, once of the buyer, once of
// the line.
func withTraits(list []string) []api.Facts {
	return []api.Facts{
		{Buyer: list, Line: []string{"book"}, Amount: 1250, Digits: 2, Quantity: 3},
		{Buyer: []string{"business", "eu"}, Line: list, Amount: 1250, Digits: 2, Quantity: 3},
		{Buyer: list, Line: list},
	}
}

// manyTraits are so many that rise.
func manyTraits(n int) []string {
	var list []string
	for i := range n {
		list = append(list, "q"+string(rune('a'+i/26))+string(rune('a'+i%26)))
	}
	return list
}

// P13.2: the chapter's examples.
func TestFitExamples(t *testing.T) {
	f := api.Facts{Buyer: []string{"business", "eu"}, Line: []string{"book"}, Amount: 1250, Digits: 2, Quantity: 3}
	wantFit(t, f)
	wantFit(t, api.Facts{})
	for _, turn := range []func(*api.Facts){
		func(f *api.Facts) { f.Buyer = []string{"eu", "business"} },
		func(f *api.Facts) { f.Buyer = []string{"eu", "eu"} },
		func(f *api.Facts) { f.Line = []string{"Book"} },
		func(f *api.Facts) { f.Digits = 5 },
		func(f *api.Facts) { f.Amount = -1 },
		func(f *api.Facts) { f.Quantity = -1 },
	} {
		wrong := f
		turn(&wrong)
		wantNoFit(t, wrong)
	}
}

// P13.2: Digits from 0 to 4, Amount and Quantity from 0 on.
func TestFitNumbers(t *testing.T) {
	for _, n := range []int64{0, 1, 2, 999999, 1000001, math.MaxInt64} {
		for digits := range 5 {
			wantFit(t, api.Facts{Amount: n, Digits: digits})
			wantFit(t, api.Facts{Quantity: n, Digits: digits})
			wantFit(t, api.Facts{Quantity: n, Digits: digits, Amount: n})
		}
	}
	for _, n := range []int64{-1, -2, math.MinInt64, math.MinInt64 + 1, -1 << 32} {
		wantNoFit(t, api.Facts{Amount: n})
		wantNoFit(t, api.Facts{Quantity: n})
		wantNoFit(t, api.Facts{Amount: 1, Quantity: n, Digits: 4})
		wantNoFit(t, api.Facts{Amount: n, Quantity: 1, Digits: 4})
	}
	for _, digits := range []int{-1, 5, 6, 9, 10, math.MinInt, math.MaxInt, 1 << 32} {
		wantNoFit(t, api.Facts{Digits: digits})
		wantNoFit(t, api.Facts{Digits: digits, Amount: 1, Quantity: 1})
	}
}

// P13.2: no trait to MaxNames of them, of the buyer and of the line.
func TestFitMany(t *testing.T) {
	for n := range 40 {
		for _, f := range withTraits(manyTraits(n)) {
			if n <= 16 {
				wantFit(t, f)
			} else {
				wantNoFit(t, f)
			}
		}
	}
	wantFit(t, api.Facts{Buyer: manyTraits(16), Line: manyTraits(16)})
	wantNoFit(t, api.Facts{Buyer: manyTraits(16), Line: manyTraits(17)})
	wantNoFit(t, api.Facts{Buyer: slices.Repeat([]string{"a"}, 1<<20)})
	wantFit(t, api.Facts{Buyer: []string{}, Line: []string{}})
}

// P13.2: traits are words, at each place.
func TestFitWords(t *testing.T) {
	for _, wrong := range noWords() {
		for _, f := range withTraits([]string{wrong}) {
			wantNoFit(t, f)
		}
		// At one of these places it rises, so that nothing else is wrong.
		for at := range 4 {
			list := slices.Insert([]string{"aa", "ma", "zz"}, at, wrong)
			for _, f := range withTraits(list) {
				wantNoFit(t, f)
			}
		}
	}
	for _, s := range []string{"a", "z_9", "ands", strings.Repeat("a", api.MaxName)} {
		for _, f := range withTraits([]string{s}) {
			wantFit(t, f)
		}
	}
}

// P13.2: traits rise byte by byte, a beginning of another one below it; none
// stands twice.
func TestFitRising(t *testing.T) {
	rising := []string{"a", "a0", "a00", "a1", "a10", "a9", "a_", "a_a", "aa", "aaa", "ab", "b", "b0", "z", "z_", "zz"}
	for _, f := range withTraits(rising) {
		wantFit(t, f)
	}
	for i, a := range rising {
		for j, b := range rising {
			for _, f := range withTraits([]string{a, b}) {
				if i < j {
					wantFit(t, f)
				} else {
					wantNoFit(t, f)
				}
			}
		}
	}
	for i := range len(rising) - 1 {
		twice, turned := slices.Clone(rising), slices.Clone(rising)
		twice[i+1] = twice[i]
		turned[i], turned[i+1] = turned[i+1], turned[i]
		for _, f := range append(withTraits(twice), withTraits(turned)...) {
			wantNoFit(t, f)
		}
	}
}
