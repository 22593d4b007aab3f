package money_test

import (
	"testing"

	"tollbook/api"
	"tollbook/money"
	"tollbook/rat"
	"tollbook/whole"
)

func wantMajor(t *testing.T, c api.Currency, units int64, want rat.Rat) {
	t.Helper()
	if r, e := money.Major(c, units); e != api.OK || !same(r, want) {
		t.Errorf("Major(%v, %d) is %s, error %d, want %s", c, units, told(r), e, told(want))
	}
}

func wantMinor(t *testing.T, c api.Currency, r, want rat.Rat, err api.Errno) {
	t.Helper()
	if got, e := money.Minor(c, r); e != err || !same(got, want) {
		t.Errorf("Minor(%v, %s) is %s, error %d, want %s, error %d", c, told(r), told(got), e, told(want), err)
	}
}

// P9.2: what may be; every letter at every place of a name.
func TestCheck(t *testing.T) {
	for digits := range 5 {
		for letter := byte('A'); letter <= 'Z'; letter++ {
			for at := range 3 {
				name := []byte("MNO")
				name[at] = letter
				if e := money.Check(coin(string(name), digits)); e != api.OK {
					t.Errorf("Check(%s %d) is %d", name, digits, e)
				}
			}
		}
	}
	for _, c := range append(currencies(), coin("XXX", 4), coin("AAA", 0), coin("ZZZ", 4)) {
		if e := money.Check(c); e != api.OK {
			t.Errorf("Check(%v) is %d", c, e)
		}
	}
}

// P9.2: every byte at every place of a name that is no capital letter.
func TestCheckEveryByte(t *testing.T) {
	for x := range 256 {
		for at := range 3 {
			name := []byte("EUR")
			name[at] = byte(x)
			want := api.ErrCurrency
			if 'A' <= x && x <= 'Z' {
				want = api.OK
			}
			if e := money.Check(coin(string(name), 2)); e != want {
				t.Errorf("Check(%q 2) is %d, want %d", name, e, want)
			}
		}
		for _, name := range []string{string(rune(x)) + "EUR", "EUR" + string([]byte{byte(x)}), "E" + string([]byte{byte(x)})} {
			if e := money.Check(coin(name, 2)); e != api.ErrCurrency {
				t.Errorf("Check(%q 2) is %d", name, e)
			}
		}
	}
}

// P9.2 to P9.4: what may not be is refused by all calls, ahead of all else, and
// with the place 0.
func TestWrongCurrencies(t *testing.T) {
	long := over(t, two(t, end, -1), whole.Small(1))
	for _, c := range wrongCurrencies() {
		if e := money.Check(c); e != api.ErrCurrency {
			t.Errorf("Check(%.20q %d) is %d", c.Name, c.Digits, e)
		}
		for _, units := range []int64{0, 1, -1, 1234, maxInt, minInt} {
			if r, e := money.Major(c, units); e != api.ErrCurrency || !same(r, rat.Rat{}) {
				t.Errorf("Major(%.20q %d, %d) is %s, error %d", c.Name, c.Digits, units, told(r), e)
			}
			if s, e := money.Text(c, units); e != api.ErrCurrency || s != "" {
				t.Errorf("Text(%.20q %d, %d) is %q, error %d", c.Name, c.Digits, units, short(s), e)
			}
		}
		for _, r := range []rat.Rat{{}, ratio(t, 1, 3), long, long.Neg()} {
			wantMinor(t, c, r, rat.Rat{}, api.ErrCurrency)
		}
		for _, s := range []string{"", "-", "x", "12", "1 " + c.Name, "1.00 " + c.Name, "1.00 EUR", "12x", "1.00000 " + c.Name} {
			if n, at, e := money.Parse(c, s); n != 0 || at != 0 || e != api.ErrCurrency {
				t.Errorf("Parse(%.20q %d, %q) is %d, %d, error %d", c.Name, c.Digits, short(s), n, at, e)
			}
		}
	}
}

// P9.2: units over so many; both ends of 64 bits, 0, fewer than one major unit.
func TestMajor(t *testing.T) {
	for digits, c := range currencies() {
		for _, units := range append(someUnits(), ends()...) {
			wantMajor(t, c, units, ratio(t, units, tenTo(digits)))
		}
	}
	wantMajor(t, eur(), -1234, ratio(t, -617, 50))
	wantMajor(t, eur(), 100, ratio(t, 1, 1))
	wantMajor(t, eur(), 0, rat.Rat{})
	wantMajor(t, jpy(), minInt, ratio(t, minInt, 1))
	wantMajor(t, coin("XXX", 4), minInt, ratio(t, minInt/16, 625))
	wantMajor(t, bhd(), 1, ratio(t, 1, 1000))
}

// P9.2: small numbers times so many.
func TestMinor(t *testing.T) {
	for digits, c := range currencies() {
		for den := int64(1); den <= 60; den++ {
			for num := int64(-30); num <= 60; num++ {
				wantMinor(t, c, ratio(t, num, den), ratio(t, num*tenTo(digits), den), api.OK)
			}
		}
		wantMinor(t, c, rat.Rat{}, rat.Rat{}, api.OK)
		wantMinor(t, c, ratio(t, 1, tenTo(digits)), ratio(t, 1, 1), api.OK)
		for _, units := range []int64{maxInt, minInt, 1e18 + 1} {
			times := product(t, whole.Small(units), whole.Small(tenTo(digits)))
			wantMinor(t, c, ratio(t, units, 7), over(t, times, whole.Small(7)), api.OK)
		}
	}
	wantMinor(t, eur(), ratio(t, 1, 3), ratio(t, 100, 3), api.OK)
	wantMinor(t, jpy(), ratio(t, 7, 2), ratio(t, 7, 2), api.OK)
}

// P9.2: what comes out has MaxRatio limbs at most, just at the limit and one
// beyond it; a number that has as many stays, if it comes down.
func TestMinorAtTheLimit(t *testing.T) {
	greatest, one := two(t, end, -1), whole.Small(1)
	for digits, c := range currencies() {
		ten := whole.Small(tenTo(digits))
		most := floorOf(t, greatest, ten)
		for _, sign := range []whole.Int{one, one.Neg()} {
			signed := product(t, sign, greatest)
			highest := product(t, sign, most)
			wantMinor(t, c, over(t, highest, one), over(t, product(t, highest, ten), one), api.OK)
			wantMinor(t, c, over(t, highest, whole.Small(7)), over(t, product(t, highest, ten), whole.Small(7)), api.OK)
			wantMinor(t, c, over(t, signed, ten), over(t, signed, one), api.OK)
			wantMinor(t, c, over(t, signed, product(t, ten, whole.Small(7))), over(t, signed, whole.Small(7)), api.OK)
			wantMinor(t, c, over(t, sign, greatest), over(t, product(t, sign, ten), greatest), api.OK)
			wantMinor(t, c, over(t, product(t, sign, two(t, end-100, 1)), greatest), over(t, product(t, ten, product(t, sign, two(t, end-100, 1))), greatest), api.OK)
			if digits == 0 {
				wantMinor(t, c, over(t, signed, two(t, end, -3)), over(t, signed, two(t, end, -3)), api.OK)
				continue
			}
			next := product(t, sign, sum(t, most, one))
			wantMinor(t, c, over(t, next, one), rat.Rat{}, api.ErrLong)
			wantMinor(t, c, over(t, signed, one), rat.Rat{}, api.ErrLong)
			wantMinor(t, c, over(t, signed, whole.Small(7)), rat.Rat{}, api.ErrLong)
			wantMinor(t, c, over(t, signed, two(t, end, -3)), rat.Rat{}, api.ErrLong)
		}
	}
}
