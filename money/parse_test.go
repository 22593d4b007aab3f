package money_test

import (
	"strings"
	"testing"

	"tollbook/api"
	"tollbook/money"
)

func wantParsed(t *testing.T, c api.Currency, s string, want parsed) {
	t.Helper()
	if n, at, e := money.Parse(c, s); (parsed{n, at, e}) != want {
		t.Errorf("Parse(%v, %q) is %d, %d, error %d, want %d, %d, error %d", c, short(s), n, at, e, want.units, want.at, want.e)
	}
}

func wantUnits(t *testing.T, c api.Currency, s string, units int64) {
	t.Helper()
	wantParsed(t, c, s, parsed{units: units})
}

func wantWrong(t *testing.T, c api.Currency, s string, at int) {
	t.Helper()
	wantParsed(t, c, s, parsed{at: at, e: api.ErrAmount})
}

// wantAllShort goes through all texts that begin with s, up to so many bytes;
// at is how far s is the beginning of an amount.
func wantAllShort(t *testing.T, r reading, s string, at, longest int) {
	t.Helper()
	want := r.parse(s, at)
	wantParsed(t, r.c, s, want)
	if want.e == api.OK {
		want.at = len(s)
	}
	for _, b := range "-.01 " + r.c.Name {
		if len(s) < longest {
			wantAllShort(t, r, s+string(b), want.at, longest)
		}
	}
}

// P9.4: every text of up to five bytes out of a few, and of three more with the
// beginning of an amount ahead.
func TestParseAllShortTexts(t *testing.T) {
	t.Parallel()
	for _, c := range currencies() {
		r := readingOf(c)
		wantAllShort(t, r, "", 0, 5)
		for _, units := range []int64{0, 100, -10, 1001, -1} {
			text := plainText(c, units)
			for at := range len(text) + 1 {
				wantAllShort(t, r, text[:at], at, at+3)
			}
		}
	}
}

// P9.4: the chapter's examples.
func TestParseExamples(t *testing.T) {
	wantUnits(t, eur(), "12.34 EUR", 1234)
	wantUnits(t, eur(), "-0.05 EUR", -5)
	wantUnits(t, eur(), "92233720368547758.07 EUR", maxInt)
	wantWrong(t, eur(), "92233720368547758.08 EUR", 19)
	wantUnits(t, eur(), "-92233720368547758.08 EUR", minInt)
	for _, c := range []struct {
		s  string
		at int
	}{{"", 0}, {"12", 2}, {"12.3 ", 4}, {"012.00 EUR", 1}, {"-0.00", 4}, {"-0.0", 4}, {"12.34 USD", 6}, {"12.34 EUR ", 9}, {"+1", 0}, {"12,34", 2}, {"12.345", 5}, {"922337203685477580", 17}} {
		wantWrong(t, eur(), c.s, c.at)
	}
	wantWrong(t, jpy(), "-0", 1)
	wantWrong(t, jpy(), "7.", 1)
}

// P9.4: what is read, and the beginnings of it, which are refused at their
// ends.
func TestParseBeginnings(t *testing.T) {
	for _, c := range currencies() {
		for _, units := range append(someUnits(), ends()...) {
			text := plainText(c, units)
			wantUnits(t, c, text, units)
			for at := range len(text) {
				wantWrong(t, c, text[:at], at)
			}
		}
	}
}

// P9.4: both ends of 64 bits with each number of digits, and one unit, and
// more, beyond them: the digit with which it gets too great is told.
func TestParseAtTheEnds(t *testing.T) {
	for digits, c := range currencies() {
		r := readingOf(c)
		put := func(sign, number string) string {
			ahead, behind := number[:len(number)-digits], number[len(number)-digits:]
			if digits > 0 {
				behind = "." + behind
			}
			return sign + ahead + behind + " " + c.Name
		}
		last := 18 + min(digits, 1)
		wantUnits(t, c, put("", "9223372036854775807"), maxInt)
		wantUnits(t, c, put("", "9223372036854775806"), maxInt-1)
		wantWrong(t, c, put("", "9223372036854775808"), last)
		wantWrong(t, c, put("", "9223372036854775809"), last)
		wantUnits(t, c, put("-", "9223372036854775807"), -maxInt)
		wantUnits(t, c, put("-", "9223372036854775808"), minInt)
		wantWrong(t, c, put("-", "9223372036854775809"), last+1)
		tooMany := [5]int{18, 17, 18, 18, 18}[digits]
		wantWrong(t, c, put("", "9223372036854775810"), tooMany)
		wantWrong(t, c, put("-", "9223372036854775810"), tooMany+1)
		// With a digit more all are beyond, as soon as too many stand ahead of the point.
		wantWrong(t, c, put("", "10000000000000000000"), 19-digits)
		wantWrong(t, c, put("-", "10000000000000000000"), 20-digits)
		wantWrong(t, c, put("", "92233720368547758070"), 19-digits)
		wantWrong(t, c, put("", "9999999999999999999"), 18-digits)
		wantWrong(t, c, put("-", "9300000000000000000"), 19-digits)
		wantUnits(t, c, put("", "9000000000000000000"), 9e18)
		for _, number := range []string{"9223372036854775807", "9223372036854775808", "9223372036854775809", "9223372036854775900", "9223372036854785807", "9223372037000000000", "18446744073709551615", "18446744073709551616", "18446744073709551617", "27670116110564327423", "340282366920938463463374607431768211457"} {
			for _, sign := range []string{"", "-"} {
				wantParsed(t, c, put(sign, number), r.parse(put(sign, number), 0))
			}
		}
	}
}

// P9.4: every byte at every place of amounts, in the place of the one there,
// and ahead of it.
func TestParseEveryByte(t *testing.T) {
	t.Parallel()
	for _, c := range currencies() {
		r := readingOf(c)
		for _, units := range []int64{0, -1, 120034, maxInt, minInt} {
			text := plainText(c, units)
			for at := range len(text) + 1 {
				for x := range 256 {
					ahead := text[:at] + string([]byte{byte(x)})
					for _, s := range []string{ahead, ahead + text[at:], ahead + text[min(at+1, len(text)):]} {
						wantParsed(t, c, s, r.parse(s, at))
					}
				}
			}
		}
	}
}

// P9.4: 0 has no -, and each - is followed by what is not 0.
func TestParseMinusNought(t *testing.T) {
	for digits, c := range currencies() {
		wantUnits(t, c, plainText(c, 0), 0)
		wantWrong(t, c, "-"+plainText(c, 0), [5]int{1, 3, 4, 5, 6}[digits])
		wantUnits(t, c, plainText(c, -1), -1)
	}
	wantUnits(t, eur(), "0.00 EUR", 0)
	wantUnits(t, eur(), "-0.01 EUR", -1)
	wantUnits(t, eur(), "-0.10 EUR", -10)
	wantWrong(t, eur(), "-0.00 EUR", 4)
	wantWrong(t, eur(), "-0.00", 4)
	wantWrong(t, eur(), "-0.0", 4)
	wantWrong(t, eur(), "-0.", 3)
	wantWrong(t, eur(), "-0", 2)
	wantWrong(t, eur(), "-", 1)
	wantWrong(t, eur(), "-00", 2)
	wantWrong(t, eur(), "-0 ", 2)
	wantWrong(t, jpy(), "-0 JPY", 1)
	wantWrong(t, jpy(), "-", 1)
	wantUnits(t, jpy(), "-10 JPY", -10)
	wantUnits(t, jpy(), "-1 JPY", -1)
	wantWrong(t, coin("XAZ", 4), "-0.0000 XAZ", 6)
	wantUnits(t, coin("XAZ", 4), "-0.0001 XAZ", -1)
}

// P9.4: noughts ahead, signs, points and blanks where none may be, too few and
// too many digits, other names, and what goes on behind an amount.
func TestParseWrong(t *testing.T) {
	for _, c := range []struct {
		c  api.Currency
		s  string
		at int
	}{
		{eur(), "00", 1}, {eur(), "00.00 EUR", 1}, {eur(), "01", 1}, {eur(), "-01.00 EUR", 2}, {jpy(), "00 JPY", 1}, {jpy(), "07 JPY", 1}, {eur(), "--1", 1}, {eur(), "-+1", 1}, {eur(), " 1", 0}, {eur(), "- 1", 1}, {eur(), ".50 EUR", 0}, {eur(), "-.50 EUR", 1},
		{eur(), "1 EUR", 1}, {eur(), "1. EUR", 2}, {eur(), "1.5 EUR", 3}, {eur(), "1.500 EUR", 4}, {eur(), "1..50 EUR", 2}, {eur(), "1.5.0 EUR", 3}, {eur(), "1.-5 EUR", 2}, {eur(), "1-", 1}, {eur(), "1e2", 1}, {eur(), "1_000.00 EUR", 1}, {eur(), "1'000.00 EUR", 1}, {eur(), "1,000.00 EUR", 1},
		{eur(), "1.00", 4}, {eur(), "1.00 ", 5}, {eur(), "1.00 E", 6}, {eur(), "1.00 EU", 7}, {eur(), "1.00EUR", 4}, {eur(), "1.00  EUR", 5}, {eur(), "1.00\tEUR", 4}, {eur(), "1.00 eur", 5}, {eur(), "1.00 EUr", 7}, {eur(), "1.00 EUS", 7}, {eur(), "1.00 ERU", 6}, {eur(), "1.00 JPY", 5}, {eur(), "EUR", 0}, {eur(), "EUR 1.00", 0},
		{eur(), "1.00 EURO", 8}, {eur(), "1.00 EUR EUR", 8}, {eur(), "1.00 EUR\n", 8}, {eur(), "1.00 EUR\x00", 8}, {eur(), "1.00 EUR1", 8}, {eur(), "1.00 EUR1.00 EUR", 8}, {jpy(), "7.0 JPY", 1}, {jpy(), "7 JPYX", 5}, {jpy(), "7 JPX", 4}, {jpy(), "7 EUR", 2}, {jpy(), "7JPY", 1}, {jpy(), "7  JPY", 2}, {jpy(), "7", 1},
		{bhd(), "0.01 BHD", 4}, {bhd(), "0.0001 BHD", 5}, {bhd(), "0.001 EUR", 6}, {eur(), "inf", 0}, {eur(), "NaN", 0}, {eur(), "0x1", 1}, {eur(), "1/2", 1}, {eur(), "\n", 0}, {eur(), "12x.00 EUR", 2}, {eur(), "x", 0},
	} {
		if want := readingOf(c.c).parse(c.s, 0); want != (parsed{at: c.at, e: api.ErrAmount}) {
			t.Errorf("the plain way tells %v of %q", want, c.s)
		}
		wantWrong(t, c.c, c.s, c.at)
	}
}

// P9.4: another currency's name, or its number of digits.
func TestParseOtherCurrencies(t *testing.T) {
	for _, c := range currencies() {
		r := readingOf(c)
		for _, o := range append(currencies(), coin(c.Name, (c.Digits+1)%5), coin(c.Name[:2]+"Q", c.Digits), coin("Q"+c.Name[1:], c.Digits)) {
			for _, units := range someUnits() {
				text := plainText(o, units)
				wantParsed(t, c, text, r.parse(text, 0))
				if n, _, e := money.Parse(c, text); c != o && (n != 0 || e != api.ErrAmount) {
					t.Errorf("Parse(%v, %q) is %d, error %d", c, text, n, e)
				}
			}
		}
	}
}

// P9.4: places are told in bytes; runes that are digits, points, signs, blanks
// or letters elsewhere, and texts that are no UTF-8, are refused at their first
// byte.
func TestParseOtherTexts(t *testing.T) {
	for _, wrong := range []string{
		"é", "\u0660", "\uff11", "\uff0e", "\u2212", "\uff0d", "\u2013", "\u00a0", "\u2009", "\u3000", "\uff25", "\u0395", "\u0415", "\U0001d7ce", "\ufffd", "\ufeff", "\u200b", "\u0130", "\u012e",
		"\xff", "\xc3", "\x80", "\xb1", "\xae", "\xa0", "\xc5", "\xc0\xae", "\xc0\xb1", "\xc0\xa0", "\xe0\x80\xb1", "\xed\xa0\x80", "\x7f",
	} {
		for at := range len("-12.34 EUR") + 1 {
			wantWrong(t, eur(), "-12.34 EUR"[:at]+wrong+"-12.34 EUR"[at:], at)
			wantWrong(t, eur(), "-12.34 EUR"[:at]+wrong, at)
		}
	}
}

// P9.4: texts may be of any length.
func TestParseLongTexts(t *testing.T) {
	for _, n := range []int{30, api.MaxDigits, api.MaxDigits + 1, 3 << 20} {
		many, nines := noughts(n), strings.Repeat("9", n)
		for digits, c := range currencies() {
			wantWrong(t, c, many, 1)
			wantWrong(t, c, "-"+many, min(digits, 1)+1)
			wantWrong(t, c, "1"+many, 19-digits)
			wantWrong(t, c, nines, 18-digits)
			wantWrong(t, c, "-"+nines, 19-digits)
			wantWrong(t, c, plainText(c, -1)+many, len(plainText(c, -1)))
			wantWrong(t, c, plainText(c, 1)+strings.Repeat(" ", n), len(plainText(c, 1)))
			wantWrong(t, c, strings.Repeat("-", n), 1)
			wantWrong(t, c, strings.Repeat(plainText(c, 7), n/15), len(plainText(c, 7)))
		}
		wantWrong(t, eur(), "1."+many, 4)
		wantWrong(t, eur(), "0."+nines+" EUR", 4)
	}
}
