package money_test

import (
	"testing"

	"tollbook/api"
	"tollbook/money"
)

func wantText(t *testing.T, c api.Currency, units int64, want string) {
	t.Helper()
	if s, e := money.Text(c, units); s != want || e != api.OK {
		t.Errorf("Text(%v, %d) is %q, error %d, want %q", c, units, s, e, want)
	}
}

// P9.3 against digits one by one.
func TestText(t *testing.T) {
	for _, c := range currencies() {
		for _, units := range append(someUnits(), ends()...) {
			wantText(t, c, units, plainText(c, units))
		}
	}
}

// P9.3: the chapter's examples; 0, fewer digits than the currency has, just as
// many and one more, both ends of 64 bits.
func TestTextExamples(t *testing.T) {
	four := coin("XAZ", 4)
	for _, c := range []struct {
		c     api.Currency
		units int64
		want  string
	}{
		{eur(), 1234, "12.34 EUR"}, {eur(), -5, "-0.05 EUR"}, {jpy(), 0, "0 JPY"}, {bhd(), 1, "0.001 BHD"}, {eur(), minInt, "-92233720368547758.08 EUR"},
		{eur(), 0, "0.00 EUR"}, {bhd(), 0, "0.000 BHD"}, {four, 0, "0.0000 XAZ"}, {coin("ONE", 1), 0, "0.0 ONE"}, {coin("ONE", 1), -7, "-0.7 ONE"}, {coin("ONE", 1), 70, "7.0 ONE"},
		{eur(), 7, "0.07 EUR"}, {eur(), 70, "0.70 EUR"}, {eur(), 99, "0.99 EUR"}, {eur(), 100, "1.00 EUR"}, {eur(), 101, "1.01 EUR"}, {eur(), -99, "-0.99 EUR"}, {eur(), -100, "-1.00 EUR"}, {eur(), -1, "-0.01 EUR"}, {eur(), 1000, "10.00 EUR"},
		{four, 1, "0.0001 XAZ"}, {four, -12, "-0.0012 XAZ"}, {four, 123, "0.0123 XAZ"}, {four, -9999, "-0.9999 XAZ"}, {four, 10000, "1.0000 XAZ"}, {four, 120034, "12.0034 XAZ"},
		{jpy(), 7, "7 JPY"}, {jpy(), -7, "-7 JPY"}, {jpy(), 1000, "1000 JPY"}, {jpy(), minInt, "-9223372036854775808 JPY"}, {jpy(), maxInt, "9223372036854775807 JPY"},
		{eur(), maxInt, "92233720368547758.07 EUR"}, {four, minInt, "-922337203685477.5808 XAZ"}, {four, maxInt, "922337203685477.5807 XAZ"}, {bhd(), minInt, "-9223372036854775.808 BHD"}, {coin("ONE", 1), minInt, "-922337203685477580.8 ONE"},
	} {
		wantText(t, c.c, c.units, c.want)
	}
}
