package decimal_test

import (
	"strings"
	"testing"

	"tollbook/api"
	"tollbook/decimal"
)

func wantParsed(t *testing.T, s string, want api.Dec) {
	t.Helper()
	if d, at, e := decimal.Parse(s); d != want || at != 0 || e != api.OK {
		t.Errorf("Parse(%q) is %v, %d, %d, want %v", short(s), d, at, e, want)
	}
}

func wantRefused(t *testing.T, s string, place int, err api.Errno) {
	t.Helper()
	if d, at, e := decimal.Parse(s); d != (api.Dec{}) || at != place || e != err {
		t.Errorf("Parse(%q) is %v, %d, %d, want the place %d and the error %d", short(s), d, at, e, place, err)
	}
}

// P6.4: every text of up to seven bytes out of a few.
func TestParseAllShortTexts(t *testing.T) {
	texts := []string{""}
	for from := 0; len(texts[from]) < 7; from++ {
		for _, b := range []byte("-.015 ") {
			texts = append(texts, texts[from]+string(rune(b)))
		}
	}
	for _, s := range texts {
		want, place, err := plainParse(s)
		if d, at, e := decimal.Parse(s); d != want || at != place || e != err {
			t.Errorf("Parse(%q) is %v, %d, %d, want %v, %d, %d", s, d, at, e, want, place, err)
		}
	}
}

// P6.4: digits without an order, so many ahead and so many behind the point.
func TestParseDigits(t *testing.T) {
	x := mixed(3)
	for ahead := 1; ahead <= 22; ahead++ {
		for behind := range 13 {
			for range 12 {
				s := x.digits(ahead)
				if behind > 0 {
					s += "." + x.digits(behind)
				}
				for _, text := range []string{s, "-" + s, "0" + s, "-000" + s} {
					want, place, err := plainParse(text)
					if d, at, e := decimal.Parse(text); d != want || at != place || e != err {
						t.Errorf("Parse(%q) is %v, %d, %d, want %v, %d, %d", text, d, at, e, want, place, err)
					}
				}
			}
		}
	}
}

func TestParseExamples(t *testing.T) {
	wantParsed(t, "2.50", dec(25, 1))
	wantParsed(t, "-0.0", dec(0, 0))
	wantParsed(t, "-0", dec(0, 0))
	wantParsed(t, "-000.000", dec(0, 0))
	wantParsed(t, "-00.50", dec(-5, 1))
	wantParsed(t, "-007", dec(-7, 0))
	wantParsed(t, "007", dec(7, 0))
	wantParsed(t, "100", dec(100, 0))
	wantParsed(t, "-100.00", dec(-100, 0))
	wantParsed(t, "10.010", dec(1001, 2))
	wantParsed(t, "0.000000001", dec(1, 9))
	wantRefused(t, "0.0000000001", 0, api.ErrOver)
	wantParsed(t, "1.0000000000", dec(1, 0))
	wantParsed(t, "0.1234567890", dec(123456789, 9))
	wantRefused(t, "0.1234567891", 0, api.ErrOver)
	wantRefused(t, "0.12345678901", 0, api.ErrOver)
}

// P6.4: both ends of 64 bits with each number of places, and one beyond them.
func TestParseAtTheEnds(t *testing.T) {
	for places := range 10 {
		put := func(digits string) string {
			if places == 0 {
				return digits
			}
			return digits[:len(digits)-places] + "." + digits[len(digits)-places:]
		}
		for _, ahead := range []string{"", "0", noughts(30)} {
			wantParsed(t, ahead+put("9223372036854775807"), dec(maxInt, places))
			wantParsed(t, "-"+ahead+put("9223372036854775807"), dec(-maxInt, places))
			wantParsed(t, "-"+ahead+put("9223372036854775808"), dec(minInt, places))
			for _, digits := range []string{"9223372036854775808", "9223372036854775809", "9999999999999999999", "18446744073709551615", "18446744073709551617", "27670116110564327423", "340282366920938463463374607431768211457", strings.Repeat("9", 500)} {
				wantRefused(t, ahead+put(digits), 0, api.ErrOver)
			}
			wantRefused(t, "-"+ahead+put("9223372036854775809"), 0, api.ErrOver)
			wantRefused(t, "-"+ahead+put("18446744073709551617"), 0, api.ErrOver)
		}
		if places > 0 {
			wantParsed(t, put("9223372036854775807")+noughts(20), dec(maxInt, places))
			wantParsed(t, "-"+put("9223372036854775808")+noughts(20), dec(minInt, places))
			wantRefused(t, put("9223372036854775808")+noughts(20), 0, api.ErrOver)
		}
	}
	wantParsed(t, "922337203685477580.700", dec(maxInt, 1))
	wantRefused(t, "922337203685477580.800", 0, api.ErrOver)
	wantRefused(t, "9223372036854775807.1", 0, api.ErrOver)
	wantRefused(t, "9223372036854775800.5", 0, api.ErrOver)
	wantParsed(t, "9223372036854775800.0", dec(9223372036854775800, 0))
	wantRefused(t, "10000000000.000000001", 0, api.ErrOver)
	wantParsed(t, "1000000000.000000001", dec(1000000000000000001, 9))
}

// P6.4: each place at which a text can be wrong first.
func TestParseWrong(t *testing.T) {
	for _, c := range []struct {
		s  string
		at int
	}{
		{"", 0}, {"-", 1}, {".5", 0}, {"-.5", 1}, {"5.", 2}, {"-5.", 3}, {"5.x", 2}, {"1,5", 1}, {"+1", 0}, {"-+1", 1}, {"1.2.3", 3}, {"--1", 1}, {"1 ", 1}, {" 1", 0}, {"- 1", 1}, {"1. 5", 2}, {"1.5 ", 3},
		{".", 0}, {"-.", 1}, {"..", 0}, {"1..", 2}, {"1..5", 2}, {"1-", 1}, {"1-1", 1}, {"1.-5", 2}, {"1.5-", 3}, {"1.+5", 2}, {"1+", 1}, {"1e5", 1}, {"1.5e5", 3}, {"0x1", 1}, {"1_000", 1}, {"1.0_0", 3}, {"1'000", 1},
		{"inf", 0}, {"NaN", 0}, {"-inf", 1}, {"1/2", 1}, {"5%", 1}, {"1\n", 1}, {"\t1", 0}, {"1\x00", 1}, {"\x001", 0}, {"12345x", 5}, {"0.12345x", 7}, {"99999999999999999999x", 20}, {"0.00000000001x", 13}, {"99999999999999999999.", 21}, {"-99999999999999999999", -1},
		{"-0.", 3}, {"00", -1}, {"1.0", -1}, {"0.0000000000.", 12},
	} {
		want, place, err := plainParse(c.s)
		if c.at >= 0 && (place != c.at || err != api.ErrDecimal) {
			t.Errorf("the plain way tells %d, %d of %q", place, err, c.s)
		}
		if d, at, e := decimal.Parse(c.s); d != want || at != place || e != err {
			t.Errorf("Parse(%q) is %v, %d, %d, want the place %d and the error %d", c.s, d, at, e, place, err)
		}
	}
}

// P6.4: every byte, wherever it stands.
func TestParseEveryByte(t *testing.T) {
	for x := range 256 {
		b := string([]byte{byte(x)})
		for _, s := range []string{b, "-" + b, "1" + b, "-1" + b, "1." + b, "1.5" + b, b + "1", b + b, "1" + b + "5", "-1." + b + "5", "1.5" + b + "5", "0" + b + "0", noughts(40) + b, "1." + noughts(40) + b} {
			want, place, err := plainParse(s)
			if d, at, e := decimal.Parse(s); d != want || at != place || e != err {
				t.Errorf("Parse(%q) is %v, %d, %d, want %v, %d, %d", s, d, at, e, want, place, err)
			}
		}
	}
}

// P6.4: places are told in bytes; runes that are digits, points or signs
// elsewhere, and texts that are no UTF-8, are refused at their first byte.
func TestParseOtherTexts(t *testing.T) {
	for _, wrong := range []string{
		"é", "\u0660", "\uff11", "\uff0e", "\u2212", "\uff0d", "\u2013", "\u00bd", "\u00b2", "\U0001d7ce", "\ufffd", "\ufeff", "\u200b", "\u0430", "\u012e", "\u012d", "\u0130",
		"\xff", "\xc3", "\x80", "\xae", "\xad", "\xb1", "\xc0\xae", "\xc0\xad", "\xc0\xb1", "\xe0\x80\xb1", "\xed\xa0\x80", "\x7f",
	} {
		wantRefused(t, wrong, 0, api.ErrDecimal)
		wantRefused(t, "-"+wrong+"1", 1, api.ErrDecimal)
		wantRefused(t, "12"+wrong+"1", 2, api.ErrDecimal)
		wantRefused(t, "1."+wrong, 2, api.ErrDecimal)
		wantRefused(t, "1."+wrong+"1", 2, api.ErrDecimal)
		wantRefused(t, "1.25"+wrong+".x", 4, api.ErrDecimal)
	}
}

// P6.4: noughts that count nothing have no limit, and neither have digits that
// are too many, nor what stands ahead of a wrong byte.
func TestParseLongTexts(t *testing.T) {
	for _, n := range []int{19, 20, 99, api.MaxDigits - 1, api.MaxDigits, api.MaxDigits + 1, 3 << 20} {
		many, nines := noughts(n), strings.Repeat("9", n)
		wantParsed(t, many, dec(0, 0))
		wantParsed(t, "-"+many+"."+many, dec(0, 0))
		wantParsed(t, many+"5", dec(5, 0))
		wantParsed(t, "-"+many+"5.25"+many, dec(-525, 2))
		wantParsed(t, many+"9223372036.854775807"+many, dec(maxInt, 9))
		wantParsed(t, "-"+many+"9223372036854775808."+many, dec(minInt, 0))
		wantRefused(t, many+"9223372036854775808."+many, 0, api.ErrOver)
		wantRefused(t, "0."+many+"1", 0, api.ErrOver)
		wantRefused(t, "1"+many, 0, api.ErrOver)
		wantRefused(t, "-1"+many+"."+many, 0, api.ErrOver)
		wantRefused(t, nines, 0, api.ErrOver)
		wantRefused(t, "0."+nines, 0, api.ErrOver)
		wantRefused(t, nines+"."+nines, 0, api.ErrOver)
		wantRefused(t, many+"x", n, api.ErrDecimal)
		wantRefused(t, "-"+nines+"x", n+1, api.ErrDecimal)
		wantRefused(t, nines+".", n+1, api.ErrDecimal)
		wantRefused(t, many+"."+nines+".", 2*n+1, api.ErrDecimal)
		wantRefused(t, "-"+many+"."+many+"-", 2*n+2, api.ErrDecimal)
	}
}
