package calendar

import (
	"strconv"
	"strings"

	"tollbook/api"
)

const textLength = len("2024-01-31")

func Text(d api.Date) (string, api.Errno) {
	year, month, day, err := Parts(d)
	if err != api.OK {
		return "", err
	}
	return padded(year, 4) + "-" + padded(month, 2) + "-" + padded(day, 2), api.OK
}

// Parse takes the digits from where they stand in a text, and holds the text of
// the day that they come to against s: so s need not be looked at byte by byte.
func Parse(s string) (api.Date, api.Errno) {
	if len(s) != textLength {
		return 0, api.ErrDate
	}
	d, err := Of(number(s[:4]), number(s[5:7]), number(s[8:]))
	if err != api.OK {
		return 0, err
	}
	if text, _ := Text(d); text != s {
		return 0, api.ErrDate
	}
	return d, api.OK
}

func padded(n, width int) string {
	digits := strconv.Itoa(n)
	return strings.Repeat("0", width-len(digits)) + digits
}

// number is of digits; of other bytes it is some number or other.
func number(s string) int {
	n := 0
	for i := range len(s) {
		n = 10*n + int(s[i]) - '0'
	}
	return n
}
