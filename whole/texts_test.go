package whole_test

import (
	"strconv"
	"strings"
	"testing"

	"tollbook/api"
	"tollbook/nat"
	"tollbook/whole"
)

func wantParsed(t *testing.T, s string, want whole.Int) {
	t.Helper()
	i, at, e := whole.Parse(s)
	if at != 0 || e != api.OK {
		t.Errorf("Parse(%q), %d bytes: %d, %d", short(s), len(s), at, e)
	}
	wantSame(t, i, want, "Parse of "+short(s))
}

// wantUnread: the error, its place, and 0 beside it.
func wantUnread(t *testing.T, s string, at int, err api.Errno) {
	t.Helper()
	i, gotAt, e := whole.Parse(s)
	wantRefused(t, i, e, err, "Parse of "+strconv.Quote(short(s)))
	if gotAt != at {
		t.Errorf("Parse(%q), %d bytes: the place is %d, want %d", short(s), len(s), gotAt, at)
	}
}

// P4.5 and P4.6 against the plain way, with noughts ahead and without.
func TestTexts(t *testing.T) {
	for _, x := range edgeNumbers() {
		if text := whole.Text(whole.Small(x)); text != strconv.FormatInt(x, 10) {
			t.Errorf("Text of %d is %s", x, text)
		}
		wantParsed(t, strconv.FormatInt(x, 10), whole.Small(x))
	}
	for _, p := range somePairs(t) {
		text := p.want.text()
		if got := whole.Text(p.got); got != text {
			t.Errorf("Text is %s, want %s", got, text)
		}
		digits, below := strings.CutPrefix(text, "-")
		for _, ahead := range []int{0, 1, 2, 18, 19, 20, 200} {
			s := noughts(ahead) + digits
			if below {
				s = "-" + s
			}
			wantParsed(t, s, p.got)
		}
	}
}

func TestTextExamples(t *testing.T) {
	if whole.Text(whole.Int{}) != "0" || whole.Text(whole.Small(-120)) != "-120" || whole.Text(whole.New(true, nat.Nat{})) != "0" {
		t.Error("Text")
	}
	wantParsed(t, "-0012", whole.Small(-12))
	wantParsed(t, "007", whole.Small(7))
	wantParsed(t, "0", whole.Int{})
	wantParsed(t, "000", whole.Int{})
	wantParsed(t, "-9223372036854775808", whole.Small(minInt))
	wantUnread(t, "", 0, api.ErrDigit)
	wantUnread(t, "-", 1, api.ErrDigit)
	wantUnread(t, "+5", 0, api.ErrDigit)
	wantUnread(t, "1 2", 1, api.ErrDigit)
	wantUnread(t, "--5", 1, api.ErrDigit)
	wantUnread(t, "--", 1, api.ErrDigit)
	wantUnread(t, "-0", 0, api.ErrDigit)
	wantUnread(t, "-000", 0, api.ErrDigit)
	wantUnread(t, "-0x", 2, api.ErrDigit)
	wantUnread(t, "-0-", 2, api.ErrDigit)
	wantUnread(t, "5-", 1, api.ErrDigit)
}

// P4.6: every byte is one of ten digits, or refused where it stands; a - at
// the beginning alone is neither.
func TestEveryByte(t *testing.T) {
	for x := range 256 {
		s := string([]byte{byte(x)})
		if '0' <= x && x <= '9' {
			wantParsed(t, s, whole.Small(int64(x-'0')))
			wantParsed(t, "-1"+s, whole.Small(-int64(10+x-'0')))
			wantParsed(t, "0"+s+"0", whole.Small(int64(10*(x-'0'))))
			continue
		}
		if x != '-' {
			wantUnread(t, s, 0, api.ErrDigit)
			wantUnread(t, s+"1", 0, api.ErrDigit)
			wantUnread(t, s+s, 0, api.ErrDigit)
		}
		wantUnread(t, "-"+s, 1, api.ErrDigit)
		wantUnread(t, "-"+s+"1", 1, api.ErrDigit)
		wantUnread(t, "1"+s, 1, api.ErrDigit)
		wantUnread(t, "-0"+s+s, 2, api.ErrDigit)
		wantUnread(t, noughts(70)+s+"7"+s, 70, api.ErrDigit)
		wantUnread(t, "-"+strings.Repeat("9", 70)+s, 71, api.ErrDigit)
	}
}

// P4.6: texts beyond ASCII, and such as are no UTF-8: runes that are digits
// elsewhere, whose last byte is a digit's, or that are written too long.
func TestNoDigits(t *testing.T) {
	for _, wrong := range []string{
		"é", "\u0130", "\u0131", "\u0660", "\uff11", "\ufffd", "\U0001d7ce", "\U00010030", "\u00b2", "\u200b", "\ufeff", "\u2212", "\u2010", "\uff0d",
		"\xff", "\xc3", "\x80", "\xc0\xb1", "\xe0\x80\xb1", "\xf0\x80\x80\xb1", "\xc0\xad", "\xed\xa0\x80", "\xf4\x90\x80\x80", "\xe9\x31", "\xb1", "\xad",
		"\x00", "\n", "\x7f", ".", ",", "_", "+", "/", ":", "a", "A", "e1", "x1", " ", "'",
	} {
		for _, behind := range []string{"", "1", wrong, "-", "é.\xff"} {
			wantUnread(t, wrong+behind, 0, api.ErrDigit)
			wantUnread(t, "-"+wrong+behind, 1, api.ErrDigit)
			wantUnread(t, "12"+wrong+behind, 2, api.ErrDigit)
			wantUnread(t, "-00"+wrong+behind, 3, api.ErrDigit)
			wantUnread(t, noughts(38)+wrong+behind, 38, api.ErrDigit)
		}
	}
}

// P4.6: MaxDigits bytes behind the -, or without one, and one more.
func TestLongTexts(t *testing.T) {
	t.Parallel()
	ten, e := nat.Pow(nat.Small(10), 99)
	wantOK(t, e, "Pow")
	for _, below := range []bool{false, true} {
		ahead, one := "", whole.Small(1)
		if below {
			ahead, one = "-", whole.Small(-1)
		}
		wantParsed(t, ahead+noughts(api.MaxDigits-1)+"1", one)
		wantParsed(t, ahead+noughts(api.MaxDigits-100)+"1"+noughts(99), whole.New(below, ten))
		wantUnread(t, ahead+strings.Repeat("9", api.MaxDigits), 0, api.ErrLong)
		wantUnread(t, ahead+strings.Repeat("9", api.MaxDigits+1), 0, api.ErrLong)
		wantUnread(t, ahead+noughts(api.MaxDigits+1), 0, api.ErrLong)
		wantUnread(t, ahead+noughts(api.MaxDigits)+"1", 0, api.ErrLong)
		wantUnread(t, ahead+noughts(1<<20), 0, api.ErrLong)
		wantUnread(t, ahead+noughts(api.MaxDigits-1)+"!", len(ahead)+api.MaxDigits-1, api.ErrDigit)
		wantUnread(t, ahead+noughts(api.MaxDigits-2)+"é", len(ahead)+api.MaxDigits-2, api.ErrDigit)
	}
	wantParsed(t, noughts(api.MaxDigits), whole.Int{})
	wantUnread(t, "-"+noughts(api.MaxDigits), 0, api.ErrDigit)
}

// P4.6: the numbers farthest from 0, and one farther.
func TestFarthestTexts(t *testing.T) {
	t.Parallel()
	for _, n := range longNumbers(t) {
		text := whole.Text(n)
		digits, below := strings.CutPrefix(text, "-")
		ahead := ""
		if below {
			ahead = "-"
		}
		if residuesOfText(text) != residuesOf(n) || digits[0] == '0' || below != (n.Sign() < 0) {
			t.Errorf("Text of a number of the sign %d and %d bits is %s", n.Sign(), n.Abs().Bits(), short(text))
		}
		wantParsed(t, text, n)
		wantParsed(t, ahead+noughts(api.MaxDigits-len(digits))+digits, n)
		wantUnread(t, ahead+noughts(api.MaxDigits-len(digits)+1)+digits, 0, api.ErrLong)
		wantUnread(t, text+noughts(20), 0, api.ErrLong)
	}
	// 2^262144 - 1 ends in 5.
	for _, n := range longNumbers(t)[:2] {
		text := whole.Text(n)
		if !strings.HasSuffix(text, "5") {
			t.Fatalf("the number farthest from 0 is %s", short(text))
		}
		wantUnread(t, text[:len(text)-1]+"6", 0, api.ErrLong)
		wantUnread(t, text+"0", 0, api.ErrLong)
	}
}

// The chapter's table: which of several errors is told.
func TestOrder(t *testing.T) {
	nines := strings.Repeat("9", api.MaxDigits)
	for _, s := range []string{
		nines + "x", "x" + nines, "+" + nines, "-x" + nines, "--" + nines, "-" + nines + "-", nines + "\xff",
		strings.Repeat("é", api.MaxDigits/2) + "1", "-" + strings.Repeat("é", api.MaxDigits/2) + "1", "-0" + noughts(api.MaxDigits) + "x",
	} {
		wantUnread(t, s, 0, api.ErrLong)
	}
	// What has just MaxDigits bytes is gone through, and refused for its bytes
	// ahead of its being too far from 0, and ahead of its noughts.
	wantUnread(t, strings.Repeat("é", api.MaxDigits/2), 0, api.ErrDigit)
	wantUnread(t, "-"+strings.Repeat("é", api.MaxDigits/2), 1, api.ErrDigit)
	wantUnread(t, nines[1:]+"x", api.MaxDigits-1, api.ErrDigit)
	wantUnread(t, "-"+nines[1:]+"x", api.MaxDigits, api.ErrDigit)
	wantUnread(t, "--"+nines[1:], 1, api.ErrDigit)
	wantUnread(t, "-"+noughts(api.MaxDigits-1)+"x", api.MaxDigits, api.ErrDigit)
	wantUnread(t, "x"+nines[1:], 0, api.ErrDigit)
}
