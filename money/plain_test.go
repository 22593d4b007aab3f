package money_test

// What the tests hold the package against: sums by the layers below, digits one
// by one; whether a text is the beginning of an amount is asked by the
// chapter's words, all ways to go on with it being tried, with nothing of the
// package in it.

import (
	"slices"
	"strconv"
	"strings"
	"testing"

	"tollbook/api"
	"tollbook/nat"
	"tollbook/rat"
	"tollbook/whole"
)

const (
	maxInt = 1<<63 - 1
	minInt = -1 << 63
	// end is the number of bits of the longest part that may be: 2^end is too long.
	end = 64 * api.MaxRatio
)

func coin(name string, digits int) api.Currency {
	return api.Currency{Name: name, Digits: digits}
}

func eur() api.Currency { return coin("EUR", 2) }
func jpy() api.Currency { return coin("JPY", 0) }
func bhd() api.Currency { return coin("BHD", 3) }

// currencies have 0 to 4 digits, at their place.
func currencies() []api.Currency {
	return []api.Currency{jpy(), coin("AAZ", 1), eur(), bhd(), coin("ZXA", 4)}
}

// wrongCurrencies may not be, by their names, by their digits or by both.
func wrongCurrencies() []api.Currency {
	wrong := []api.Currency{}
	for _, name := range []string{"", "E", "EU", "EURO", "EUREUR", "eur", "Eur", "EuR", "EUr", "eUR", "E R", " EU", "EU ", "EUR ", " EUR", "EU1", "1EU", "E-R", "E.R", "@UR", "E[R", "EU`", "EU{", "EU_", "\x00UR", "EU\x00", "EU\n", "É", "ÉU", "ÉUR", "EUÉ", "E\xffR", "\xc1UR", "\uff25", "\uff25UR", strings.Repeat("E", 1<<20)} {
		for digits := range 5 {
			wrong = append(wrong, coin(name, digits))
		}
	}
	for _, digits := range []int{-1, 5, -2, 6, 9, 10, 19, 64, 100, 256, -256, 1 << 32, -1 << 32, 1<<32 + 2, maxInt, minInt} {
		wrong = append(wrong, coin("EUR", digits), coin("XXX", digits), coin("", digits), coin("eur", digits))
	}
	return wrong
}

// someUnits are small ones, those around powers of ten, and both ends.
func someUnits() []int64 {
	units := []int64{0, maxInt, maxInt - 1, maxInt - 7, minInt, minInt + 1, minInt + 8, 1 << 32, -1 << 32, 123456789, 1234567890123456789}
	for u := int64(1); u <= 130; u++ {
		units = append(units, u, -u)
	}
	for ten := int64(100); ten < maxInt/10; ten *= 10 {
		for _, u := range []int64{ten - 1, ten, ten + 1, 5 * ten, 9*ten - 10} {
			units = append(units, u, -u)
		}
	}
	x := mixed(1)
	for n := range 60 {
		units = append(units, int64(x.next())>>n)
	}
	return append(units, 1e18, -1e18, 9e18, -9e18, 9223372036854775800, -9223372036854775800)
}

func far(x int64) uint64 {
	if x < 0 {
		return -uint64(x)
	}
	return uint64(x)
}

func tenTo(n int) int64 {
	ten := int64(1)
	for range n {
		ten *= 10
	}
	return ten
}

// outcome is a number, or that there is none of 64 bits.
type outcome struct {
	n int64
	e api.Errno
}

// plainSum is by whole numbers, which have room for all that comes on the way.
func plainSum(t *testing.T, l ...int64) outcome {
	t.Helper()
	total := whole.Int{}
	for _, x := range l {
		total = sum(t, total, whole.Small(x))
	}
	n, e := total.Int64()
	return outcome{n, e}
}

// plainText has the digits one by one, the last one first.
func plainText(c api.Currency, units int64) string {
	text, left := " "+c.Name, far(units)
	for at := 0; at <= c.Digits || left > 0; at++ {
		if at == c.Digits && at > 0 {
			text = "." + text
		}
		text = string(rune('0'+left%10)) + text
		left /= 10
	}
	if units < 0 {
		return "-" + text
	}
	return text
}

// plainUnits are those of which s is the text, if there are any.
func plainUnits(c api.Currency, s string) (int64, bool) {
	number, named := strings.CutSuffix(s, " "+c.Name)
	if !named {
		return 0, false
	}
	units, err := strconv.ParseInt(strings.Replace(number, ".", "", 1), 10, 64)
	return units, err == nil && plainText(c, units) == s
}

// reading is a currency beside what may be missing of its amounts: perhaps a
// digit ahead of the point, perhaps the point, perhaps digits behind it, some of
// blank and name. With noughts an amount stays nearest to 0, with a 1 at the end
// it is not 0.
type reading struct {
	c     api.Currency
	tails []string
}

func readingOf(c api.Currency) reading {
	r := reading{c: c}
	for _, ahead := range []string{"", "1", ".", "1."} {
		for n := range c.Digits + 1 {
			for _, digits := range []string{noughts(n), noughts(n-1) + "1"}[:min(n+1, 2)] {
				for from := range 5 {
					r.tails = append(r.tails, ahead+digits+(" " + c.Name)[from:])
				}
			}
		}
	}
	return r
}

// begins is whether s is the beginning of an amount.
func (r reading) begins(s string) bool {
	return slices.ContainsFunc(r.tails, func(tail string) bool {
		_, ok := plainUnits(r.c, s+tail)
		return ok
	})
}

// parsed is what Parse tells.
type parsed struct {
	units int64
	at    int
	e     api.Errno
}

// parse is for a text that is known to be the beginning of an amount up to at.
func (r reading) parse(s string, at int) parsed {
	if units, ok := plainUnits(r.c, s); ok {
		return parsed{units: units}
	}
	for at < len(s) && r.begins(s[:at+1]) {
		at++
	}
	return parsed{at: at, e: api.ErrAmount}
}

func ratio(t *testing.T, num, den int64) rat.Rat {
	t.Helper()
	r, e := rat.Small(num, den)
	wantOK(t, e, "rat.Small")
	return r
}

func over(t *testing.T, num, den whole.Int) rat.Rat {
	t.Helper()
	r, e := rat.New(num, den)
	wantOK(t, e, "rat.New")
	return r
}

// two is 2^n and so much more.
func two(t *testing.T, n int, more int64) whole.Int {
	t.Helper()
	power, e := nat.Left(nat.Small(1), n)
	wantOK(t, e, "nat.Left")
	return sum(t, whole.New(false, power), whole.Small(more))
}

func sum(t *testing.T, a, b whole.Int) whole.Int {
	t.Helper()
	total, e := whole.Add(a, b)
	wantOK(t, e, "whole.Add")
	return total
}

func product(t *testing.T, a, b whole.Int) whole.Int {
	t.Helper()
	total, e := whole.Mul(a, b)
	wantOK(t, e, "whole.Mul")
	return total
}

func floorOf(t *testing.T, a, b whole.Int) whole.Int {
	t.Helper()
	quotient, _, e := whole.DivMod(a, b)
	wantOK(t, e, "whole.DivMod")
	return quotient
}

func same(a, b rat.Rat) bool {
	p, q := a.Plain(), b.Plain()
	return p.Neg == q.Neg && slices.Equal(p.Num, q.Num) && slices.Equal(p.Den, q.Den)
}

// told is a number that can stand in a report.
func told(r rat.Rat) string {
	return short(whole.Text(r.Num())) + "/" + short(whole.Text(whole.New(false, r.Den())))
}

func wantOK(t *testing.T, e api.Errno, what string) {
	t.Helper()
	if e != api.OK {
		t.Errorf("%s: error %d", what, e)
	}
}

func noughts(n int) string {
	return strings.Repeat("0", max(n, 0))
}

// short is a text that can be told in a report.
func short(s string) string {
	if len(s) > 70 {
		return s[:30] + " .. " + s[len(s)-30:]
	}
	return s
}

// mixed tells numbers without an order, the same ones in every run.
type mixed uint64

func (x *mixed) next() uint64 {
	*x += 0x9e3779b97f4a7c15
	z := uint64(*x)
	z = (z ^ z>>30) * 0xbf58476d1ce4e5b9
	z = (z ^ z>>27) * 0x94d049bb133111eb
	return z ^ z>>31
}

// The plain ways are themselves held against what anyone knows.
func TestPlain(t *testing.T) {
	for _, c := range []struct {
		c     api.Currency
		units int64
		text  string
	}{{eur(), 1234, "12.34 EUR"}, {eur(), -5, "-0.05 EUR"}, {jpy(), 0, "0 JPY"}, {jpy(), -120, "-120 JPY"}, {bhd(), 1, "0.001 BHD"}, {eur(), minInt, "-92233720368547758.08 EUR"}} {
		units, ok := plainUnits(c.c, c.text)
		if plainText(c.c, c.units) != c.text || units != c.units || !ok {
			t.Errorf("the plain text of %d is %q, and back it is %d, %t", c.units, plainText(c.c, c.units), units, ok)
		}
	}
	for _, s := range []string{"", "12", "12.3 EUR", "1234 EUR", "12.34 USD", "12.34EUR", "012.34 EUR", "+12.34 EUR", "-0.00 EUR", "1.234 EUR", "12.34 EUR ", "92233720368547758.08 EUR"} {
		if units, ok := plainUnits(eur(), s); ok {
			t.Errorf("%q is an amount of %d", s, units)
		}
	}
	if plainSum(t) != (outcome{}) || plainSum(t, maxInt, 1, -1) != (outcome{n: maxInt}) || plainSum(t, minInt, -1) != (outcome{e: api.ErrOver}) {
		t.Error("plainSum")
	}
}

// Whatever is ahead of a place in an amount is found to be the beginning of
// one, and what is not is found so.
func TestPlainBeginnings(t *testing.T) {
	for _, c := range currencies() {
		r := readingOf(c)
		for _, units := range someUnits() {
			text := plainText(c, units)
			for at := range len(text) + 1 {
				if !r.begins(text[:at]) {
					t.Errorf("%q is no beginning", text[:at])
				}
			}
		}
	}
	for _, s := range []string{"+", "00", "-00", "-0.00", "1 ", "1.5 ", "1.234", "1.00 U", "92233720368547759", "92233720368547758.08", "--", ".", "-.", "1.00 EUR "} {
		if readingOf(eur()).begins(s) {
			t.Errorf("%q is a beginning", s)
		}
	}
}
