package numeral_test

import (
	"strings"
	"testing"

	"tollbook/api"
	"tollbook/nat"
	"tollbook/numeral"
)

// P3.2 against the plain way, with and without noughts ahead.
func TestParse(t *testing.T) {
	for _, base := range bases() {
		text := "0"
		for x := range uint64(3000) {
			wantParsed(t, text, base, nat.Small(x))
			text = next(text, base)
		}
		for _, l := range manyLists() {
			text, n := plainText(l, base), of(t, l...)
			for _, ahead := range []int{0, 1, 2, 11, 12, 13, 19, 63, 64, 200} {
				wantParsed(t, noughts(ahead)+text, base, n)
			}
		}
	}
}

func TestParseExamples(t *testing.T) {
	wantParsed(t, "ff", 16, nat.Small(255))
	wantParsed(t, "000", 10, nat.Small(0))
	wantParsed(t, "007", 8, nat.Small(7))
	wantParsed(t, "1z", 36, nat.Small(71))
	wantRefused(t, "1z", 35, 1, api.ErrDigit)
	wantRefused(t, "FF", 16, 0, api.ErrDigit)
	wantRefused(t, "", 10, 0, api.ErrDigit)
	wantRefused(t, "-1", 10, 0, api.ErrDigit)
	wantRefused(t, "12 3", 10, 2, api.ErrDigit)
	wantRefused(t, "1é", 10, 1, api.ErrDigit)
	wantParsed(t, "1"+noughts(78913), 10, power(t, 10, 78913))
	wantRefused(t, "1"+noughts(78914), 10, 0, api.ErrLong)
	wantRefused(t, "1"+noughts(78914)+".", 10, 78915, api.ErrDigit)
}

// Powers of a base, and one below: with digits of all places, or noughts alone.
func TestParsePowers(t *testing.T) {
	for _, base := range bases() {
		greatest := alphabet[base-1 : base]
		for k := 1; k < 140; k++ {
			n := power(t, base, k)
			wantParsed(t, "1"+noughts(k), base, n)
			wantParsed(t, noughts(k)+"1"+noughts(k-1)+"1", base, more(t, n, 1))
			wantParsed(t, strings.Repeat(greatest, k), base, less(t, n, 1))
		}
	}
}

// Every byte is a digit of the bases above its worth, or of none, wherever it
// stands.
func TestEveryByte(t *testing.T) {
	for _, base := range bases() {
		for x := range 256 {
			s := string([]byte{byte(x)})
			worth := strings.IndexByte(alphabet[:base], byte(x))
			if worth >= 0 {
				wantParsed(t, s, base, nat.Small(uint64(worth)))
				wantParsed(t, "0"+s, base, nat.Small(uint64(worth)))
				continue
			}
			wantRefused(t, s, base, 0, api.ErrDigit)
			wantRefused(t, s+"1", base, 0, api.ErrDigit)
			wantRefused(t, s+s, base, 0, api.ErrDigit)
			wantRefused(t, noughts(70)+s, base, 70, api.ErrDigit)
			wantRefused(t, "1"+noughts(18)+s+"0"+s, base, 19, api.ErrDigit)
			wantRefused(t, strings.Repeat("1", 64)+s, base, 64, api.ErrDigit)
		}
	}
}

// Texts beyond ASCII, and such as are no UTF-8: runes that are digits
// elsewhere, whose last byte is a digit's, or that are written too long.
func TestNoDigits(t *testing.T) {
	for _, wrong := range []string{
		"é", "ÿ", "\u0130", "\u0131", "\u0161", "\u0660", "\uff11", "\uff41", "\ufffd", "\U0001d7ce", "\U00010030", "\u00b2", "\u017f", "\u212a", "\u200b", "\ufeff",
		"\xff", "\xc3", "\x80", "\xc0\xb1", "\xe0\x80\xb1", "\xf0\x80\x80\xb1", "\xed\xa0\x80", "\xf4\x90\x80\x80", "\xe9\x31", "\x00", "\n", "\x7f",
		".", ",", "_", "+1", "-0", "0x1", " 1", "A", "Z", "/", ":", "`", "{", "@", "[",
	} {
		at := 0
		if wrong == "0x1" {
			at = 1
		}
		for _, base := range []int{2, 10, 16, 33} {
			wantRefused(t, wrong, base, at, api.ErrDigit)
			wantRefused(t, "1"+wrong, base, 1+at, api.ErrDigit)
			wantRefused(t, "1"+wrong+"1", base, 1+at, api.ErrDigit)
			wantRefused(t, noughts(38)+wrong+"1é.", base, 38+at, api.ErrDigit)
		}
	}
}

// MaxDigits bytes, and one more.
func TestParseLongTexts(t *testing.T) {
	t.Parallel()
	for _, base := range bases() {
		wantParsed(t, noughts(api.MaxDigits), base, nat.Small(0))
		wantParsed(t, noughts(api.MaxDigits-1)+"1", base, nat.Small(1))
		wantParsed(t, noughts(api.MaxDigits-100)+"1"+noughts(99), base, power(t, base, 99))
		wantRefused(t, noughts(api.MaxDigits+1), base, 0, api.ErrLong)
		wantRefused(t, noughts(api.MaxDigits)+"1", base, 0, api.ErrLong)
		wantRefused(t, noughts(api.MaxDigits-1)+"!", base, api.MaxDigits-1, api.ErrDigit)
		wantRefused(t, noughts(api.MaxDigits-2)+"é", base, api.MaxDigits-2, api.ErrDigit)
	}
	greatest := of(t, longest()[0]...)
	wantParsed(t, strings.Repeat("1", api.MaxDigits), 2, greatest)
	wantRefused(t, strings.Repeat("1", api.MaxDigits+1), 2, 0, api.ErrLong)
	for _, base := range basesFor(greatest)[1:] {
		wantRefused(t, strings.Repeat("1", api.MaxDigits), base, 0, api.ErrLong)
	}
}

// The greatest number that is not long, and the first that is.
func TestParseTheGreatest(t *testing.T) {
	t.Parallel()
	greatest := of(t, longest()[0]...)
	for _, base := range bases() {
		text := textOf(t, greatest, base)
		wantParsed(t, text, base, greatest)
		wantParsed(t, noughts(api.MaxDigits-len(text))+text, base, greatest)
		wantRefused(t, next(text, base), base, 0, api.ErrLong)
	}
	for _, base := range basesFor(greatest) {
		wantRefused(t, textOf(t, greatest, base)+"0", base, 0, api.ErrLong)
		k := lastPower(t, base)
		wantParsed(t, "1"+noughts(k), base, power(t, base, k))
		wantRefused(t, "1"+noughts(k+1), base, 0, api.ErrLong)
	}
}

// The chapter's table: which of several errors is told.
func TestParseOrder(t *testing.T) {
	tooMany := strings.Repeat("1", api.MaxDigits+1)
	for _, base := range wrongBases() {
		for _, s := range []string{"", "1", "0", "!", "é", tooMany, tooMany + "!", strings.Repeat("!", api.MaxDigits+1)} {
			wantRefused(t, s, base, 0, api.ErrBase)
		}
	}
	for _, base := range bases() {
		wantRefused(t, tooMany[1:]+"!", base, 0, api.ErrLong)
		wantRefused(t, "!"+tooMany[1:], base, 0, api.ErrLong)
		wantRefused(t, strings.Repeat("é", api.MaxDigits/2)+"1", base, 0, api.ErrLong)
		wantRefused(t, strings.Repeat("é", api.MaxDigits/2), base, 0, api.ErrDigit)
		wantRefused(t, noughts(1<<20), base, 0, api.ErrLong)
	}
}

// A byte that is no digit is told ahead of a number that is long.
func TestDigitAheadOfLong(t *testing.T) {
	for _, base := range bases()[1:] {
		s := strings.Repeat("1", api.MaxDigits-1)
		wantRefused(t, s+"~", base, len(s), api.ErrDigit)
		wantRefused(t, "~"+s, base, 0, api.ErrDigit)
		wantRefused(t, s[:200000]+"~1~", base, 200000, api.ErrDigit)
	}
	if _, at, e := numeral.Parse(strings.Repeat("9", 78915)+"a", 10); at != 78915 || e != api.ErrDigit {
		t.Error(at, e)
	}
}
