package calendar_test

import (
	"strings"
	"testing"

	"tollbook/api"
	"tollbook/calendar"
)

func wantNoText(t *testing.T, s string) {
	t.Helper()
	d, e := calendar.Parse(s)
	wantDay(t, s, d, e, 0, api.ErrDate)
}

// P10.2, P10.6: every day that is there, told and read; texts rise.
func TestEveryText(t *testing.T) {
	t.Parallel()
	last := ""
	for d := range allDays {
		text, e := calendar.Text(d.d)
		if text != d.text() || e != api.OK {
			t.Fatalf("Text(%d): %q, error %d", d.d, text, e)
		}
		if back, e := calendar.Parse(text); back != d.d || e != api.OK {
			t.Fatalf("Parse(%q): %d, error %d", text, back, e)
		}
		if text <= last {
			t.Fatalf("%q is not above %q", text, last)
		}
		last = text
	}
}

// P10.2: of some years all numbers of two digits as months and days: those that
// are days are read, the others are not.
func TestAllDigits(t *testing.T) {
	texts := map[string]api.Date{}
	for d := range allDays {
		texts[d.text()] = d.d
		if d.year > 8 {
			break
		}
	}
	read := 0
	for year := range 9 {
		for month := range 100 {
			for n := range 100 {
				text := day{year: year, month: month, n: n}.text()
				d, e := calendar.Parse(text)
				want, ok := texts[text]
				if !ok {
					wantDay(t, text, d, e, 0, api.ErrDate)
					continue
				}
				read++
				wantDay(t, text, d, e, want, api.OK)
			}
		}
	}
	if read != 8*365+2 {
		t.Errorf("%d texts are read", read)
	}
}

// P10.2: each byte in each place of a text; what is read is told so.
func TestOtherBytes(t *testing.T) {
	for _, s := range []string{"2024-01-31", "2024-12-12", "0001-01-01", "9999-12-31", "2000-02-29", "1111-11-11"} {
		for at := range len(s) {
			for b := range 256 {
				other := s[:at] + string([]byte{byte(b)}) + s[at+1:]
				isDigit := b >= '0' && b <= '9' && s[at] != '-'
				if !isDigit && other != s {
					wantNoText(t, other)
					continue
				}
				d, e := calendar.Parse(other)
				if e != api.OK {
					wantDay(t, other, d, e, 0, api.ErrDate)
					continue
				}
				if text, _ := calendar.Text(d); text != other {
					t.Errorf("%q is read as %q", other, text)
				}
			}
		}
	}
}

// P10.2: bytes beside the digits that come to the same number as digits do.
func TestBytesThatComeToTheSame(t *testing.T) {
	for _, s := range []string{"202.-01-31", "201>-01-31", "2024-0;-01", "2024-1'-01", "2024-01-2;", "2024-01-4'", "2024-/;-01", "1:24-01-31", "2024-01-1:", "2024-01-0;", "/:24-01-31"} {
		wantNoText(t, s)
	}
	for low := range 256 {
		for high := range 256 {
			pair := string([]byte{byte(high), byte(low)})
			n := 10*(high-'0') + low - '0'
			isDigits := high >= '0' && high <= '9' && low >= '0' && low <= '9'
			for _, c := range [][2]string{{"2023-", "-15"}, {"2023-12-", ""}, {"20", "-01-31"}} {
				if isDigits || n < 0 {
					continue
				}
				wantNoText(t, c[0]+pair+c[1])
			}
		}
	}
}

// P10.2: texts that are too short, too long, or with signs, blanks and points.
func TestWrongTexts(t *testing.T) {
	s := "2024-01-31"
	for at := range len(s) {
		wantNoText(t, s[:at])
		wantNoText(t, s[at+1:])
		wantNoText(t, s[:at]+s[at+1:])
		for _, more := range []string{"0", "-", " ", "\x00", "é"} {
			wantNoText(t, s[:at]+more+s[at:])
			wantNoText(t, s+more)
		}
	}
	for _, s := range []string{
		"2024-1-31", "2024-01-1", "24-01-31", "024-01-31", "02024-01-31", "2024-001-31", "2024-01-031", "2024-1-031", "10000-01-01", "10000-1-01",
		"2024/01/31", "2024.01.31", "2024 01 31", "2024:01:31", "20240131", "2024013100", "2024-01/31", "2024/01-31", "2024--1-31", "2024-01--1", "2024-+1-31", "2024-01-+1", "2024- 1-31", "2024-01- 1", "-024-01-31", "+024-01-31", " 024-01-31", "-2024-01-31",
		"31-01-2024", "01-31-2024", "0000-01-01", "0000-12-31", "2024-00-31", "2024-13-01", "2024-01-00", "2024-01-32", "2023-02-29", "1900-02-29", "2024-02-30", "2024-04-31", "2024-06-31", "2024-09-31", "2024-11-31", "9999-12-32", "9999-13-01", "2024-99-99", "9999-99-99", "0000-00-00",
		"२०२४-01-31", "２-01-31", "2024\u201301-3", "2024-0\x00-31", strings.Repeat("2", 10), strings.Repeat("-", 10), strings.Repeat("2024-01-31", 100000),
	} {
		wantNoText(t, s)
	}
}
