package money_test

import (
	"slices"
	"testing"

	"tollbook/api"
	"tollbook/money"
	"tollbook/rat"
)

// P9.5: there and back, by texts and by major units.
func TestThereAndBack(t *testing.T) {
	for _, c := range currencies() {
		for _, units := range append(someUnits(), ends()...) {
			text, e := money.Text(c, units)
			wantOK(t, e, "Text")
			wantUnits(t, c, text, units)
			r, e := money.Major(c, units)
			wantOK(t, e, "Major")
			wantMinor(t, c, r, ratio(t, units, 1), api.OK)
		}
	}
}

// P9.5: what is read is told as it was read; of all short texts, and of all
// beside an amount.
func TestReadIsTold(t *testing.T) {
	read := 0
	for _, c := range []api.Currency{jpy(), coin("AAZ", 1), eur()} {
		texts := []string{""}
		for from := 0; len(texts[from]) < 6; from++ {
			for _, b := range []byte("-.013") {
				texts = append(texts, texts[from]+string(rune(b)))
			}
		}
		for _, s := range texts {
			text := s + " " + c.Name
			units, _, e := money.Parse(c, text)
			if e != api.OK {
				continue
			}
			read++
			wantText(t, c, units, text)
		}
	}
	if read < 600 {
		t.Errorf("only %d texts are read", read)
	}
}

// P9.5: no two amounts of a currency are one, and greater units are more in
// major units.
func TestUnitsStayApart(t *testing.T) {
	for _, c := range currencies() {
		units := append(someUnits(), ends()...)
		slices.Sort(units)
		units = slices.Compact(units)
		texts := map[string]bool{}
		last := rat.Rat{}
		for i, u := range units {
			text, _ := money.Text(c, u)
			if texts[text] {
				t.Errorf("%q is told twice", text)
			}
			texts[text] = true
			r, e := money.Major(c, u)
			wantOK(t, e, "Major")
			if i > 0 && rat.Compare(last, r) >= 0 {
				t.Errorf("Major(%v, %d) is not above the one ahead", c, u)
			}
			last = r
		}
	}
}

// P9.5: Sum does not hang on the order, even where it runs over on the way.
func TestSumInAnyOrder(t *testing.T) {
	x := mixed(5)
	for _, list := range [][]int64{
		{maxInt, 1, -1}, {maxInt, 1}, {minInt, minInt, maxInt, maxInt, 2}, {minInt, -1, 1, 0}, {maxInt, maxInt, minInt, minInt, 2, maxInt}, {1, 2, 3, 4}, {maxInt, maxInt, -maxInt, -1, minInt, 5}, {minInt, minInt, maxInt},
	} {
		want := plainSum(t, list...)
		for range 200 {
			for i := range list {
				j := x.next() % uint64(len(list))
				list[i], list[j] = list[j], list[i]
			}
			wantSum(t, want, list...)
		}
	}
}

// P9.1, P9.5: Sub takes off what Add has added, and Sum of two is Add.
func TestSubTakesOff(t *testing.T) {
	for _, a := range ends() {
		for _, b := range ends() {
			total, e := money.Add(a, b)
			wantSum(t, outcome{total, e}, a, b)
			if e == api.OK {
				wantTakenOff(t, total, b, outcome{n: a})
				wantTakenOff(t, total, a, outcome{n: b})
			}
		}
	}
}
