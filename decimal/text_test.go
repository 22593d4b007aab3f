package decimal_test

import (
	"testing"

	"tollbook/api"
	"tollbook/decimal"
)

func wantText(t *testing.T, d api.Dec, want string) {
	t.Helper()
	if text, e := decimal.Text(d); text != want || e != api.OK {
		t.Errorf("Text(%v) is %q, %d, want %q", d, text, e, want)
	}
}

// P6.5 against digits one by one.
func TestText(t *testing.T) {
	for _, d := range someDecs() {
		wantText(t, d, plainText(d))
	}
}

func TestTextExamples(t *testing.T) {
	wantText(t, dec(25, 1), "2.5")
	wantText(t, dec(-5, 2), "-0.05")
	wantText(t, dec(0, 0), "0")
	wantText(t, dec(minInt, 9), "-9223372036.854775808")
}

// P6.5: numbers between -1 and 1, and both ends of 64 bits.
func TestTextAtTheEnds(t *testing.T) {
	for _, c := range []struct {
		d    api.Dec
		want string
	}{
		{dec(1, 1), "0.1"}, {dec(-1, 1), "-0.1"}, {dec(1, 9), "0.000000001"}, {dec(-1, 9), "-0.000000001"}, {dec(99, 2), "0.99"}, {dec(-99, 2), "-0.99"}, {dec(101, 2), "1.01"}, {dec(-101, 2), "-1.01"},
		{dec(999999999, 9), "0.999999999"}, {dec(-123456789, 9), "-0.123456789"}, {dec(1000000001, 9), "1.000000001"}, {dec(5, 3), "0.005"}, {dec(-55, 3), "-0.055"}, {dec(555, 3), "0.555"}, {dec(5555, 3), "5.555"},
		{dec(minInt, 0), "-9223372036854775808"}, {dec(minInt, 1), "-922337203685477580.8"}, {dec(maxInt, 0), "9223372036854775807"}, {dec(maxInt, 9), "9223372036.854775807"}, {dec(maxInt, 1), "922337203685477580.7"},
		{dec(10, 0), "10"}, {dec(-100, 0), "-100"}, {dec(1e18, 0), "1000000000000000000"}, {dec(-1, 0), "-1"}, {dec(1, 0), "1"},
	} {
		wantText(t, c.d, c.want)
	}
}

func TestTextRefuses(t *testing.T) {
	for _, d := range append(wrongDecs(), dec(10, 1), dec(0, 1)) {
		if text, e := decimal.Text(d); text != "" || e != api.ErrDecimal {
			t.Errorf("Text(%v) is %q, %d", d, text, e)
		}
	}
}
