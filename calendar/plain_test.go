package calendar_test

// What the tests hold the package against: all days of the calendar, counted
// one by one by the chapter's words, with nothing of the package in it.

import (
	"slices"
	"strconv"
	"testing"

	"tollbook/api"
)

const (
	maxInt = 1<<63 - 1
	minInt = -1 << 63
)

// month is one that is there, with its first day and how many days it has.
type month struct {
	year, number int
	from         api.Date
	days         int
}

// allMonths are those of the years 1 to 9999.
func allMonths() []month {
	var list []month
	from := api.Date(0)
	for year := 1; year <= 9999; year++ {
		for number := 1; number <= 12; number++ {
			m := month{year, number, from, plainLength(year, number)}
			list = append(list, m)
			from += api.Date(m.days)
		}
	}
	return list
}

func plainLength(year, number int) int {
	switch number {
	case 4, 6, 9, 11:
		return 30
	case 2:
		if plainLeap(year) {
			return 29
		}
		return 28
	}
	return 31
}

func plainLeap(year int) bool {
	if year%400 == 0 {
		return true
	}
	if year%100 == 0 {
		return false
	}
	return year%4 == 0
}

// day is one that is there, as the package should tell it.
type day struct {
	d                      api.Date
	year, month, n, inWeek int
}

// allDays goes through all days in their order, a weekday behind another.
func allDays(yield func(day) bool) {
	inWeek := 1
	for _, m := range allMonths() {
		for n := 1; n <= m.days; n++ {
			if !yield(day{m.from + api.Date(n-1), m.year, m.number, n, inWeek}) {
				return
			}
			inWeek++
			if inWeek == 8 {
				inWeek = 1
			}
		}
	}
}

// text is written digit by digit.
func (d day) text() string {
	text := []byte("0000-00-00")
	for _, part := range [3][2]int{{d.year, 3}, {d.month, 6}, {d.n, 9}} {
		for left, at := part[0], part[1]; left > 0; left, at = left/10, at-1 {
			text[at] += byte(left % 10)
		}
	}
	return string(text)
}

// plainMonths is by the list of all months; a place in it that lies beyond its
// ends is asked without a sum that could run over.
func plainMonths(all []month, at, n, number int) (api.Date, api.Errno) {
	if n < 0 && n < -at || n >= 0 && n > len(all)-1-at {
		return 0, api.ErrDate
	}
	m := all[at+n]
	return m.from + api.Date(min(number, m.days)-1), api.OK
}

// plainPeriod is found among all months: those of the same year, or quarter.
func plainPeriod(all []month, at int, p api.Period) api.Span {
	together := func(m month) bool {
		switch p {
		case api.PerYear:
			return m.year == all[at].year
		case api.PerQuarter:
			return m.year == all[at].year && quarter(m.number) == quarter(all[at].number)
		}
		return m == all[at]
	}
	from, to := at, at
	for from > 0 && together(all[from-1]) {
		from--
	}
	for to < len(all)-1 && together(all[to+1]) {
		to++
	}
	return api.Span{From: all[from].from, To: all[to].from + api.Date(all[to].days)}
}

func quarter(number int) int {
	return [13]int{0, 1, 1, 1, 2, 2, 2, 3, 3, 3, 4, 4, 4}[number]
}

func periods() []api.Period {
	return []api.Period{api.PerYear, api.PerQuarter, api.PerMonth}
}

// wrongPeriods are none.
func wrongPeriods() []api.Period {
	return []api.Period{0, 4, -1, 5, 12, 257, 258, 259, -3, 1<<32 + 1, 1<<32 + 3, maxInt, minInt}
}

// wrongDays are not there.
func wrongDays() []api.Date {
	return []api.Date{-1, api.MaxDate + 1, -2, api.MaxDate + 2, -365, -366, 2 * api.MaxDate, -api.MaxDate, 1 << 32, -1 << 32, 1<<32 + 5, 1 << 62, -1 << 62, maxInt, maxInt - 1, minInt, minInt + 1}
}

// someMonths are places in the list of all months: those of leap years, of
// others, of years that 100 and 400 divide, and the ends.
func someMonths() []int {
	var places []int
	for _, year := range []int{1, 2, 4, 5, 99, 100, 101, 399, 400, 401, 476, 1582, 1899, 1900, 1904, 1999, 2000, 2001, 2023, 2024, 2025, 2100, 4000, 8000, 9996, 9998, 9999} {
		for number := range 12 {
			places = append(places, (year-1)*12+number)
		}
	}
	return places
}

func wantDay(t *testing.T, what string, got api.Date, e api.Errno, want api.Date, wantE api.Errno) {
	t.Helper()
	if got != want || e != wantE {
		t.Errorf("%s: %d, error %d; wanted %d, error %d", what, got, e, want, wantE)
	}
}

func told(numbers ...int) string {
	text := ""
	for _, n := range numbers {
		text += " " + strconv.Itoa(n)
	}
	return text
}

// The plain ways are themselves held against what anyone knows.
func TestPlain(t *testing.T) {
	all := allMonths()
	last := all[len(all)-1]
	if len(all) != 119988 || last != (month{9999, 12, 3652028, 31}) || last.from+31 != api.MaxDate+1 {
		t.Errorf("%d months, the last one is %v", len(all), last)
	}
	known := map[string]day{
		"0001-01-01": {0, 1, 1, 1, 1},
		"1582-10-15": {577735, 1582, 10, 15, 5},
		"1969-07-20": {718997, 1969, 7, 20, 7},
		"1970-01-01": {719162, 1970, 1, 1, 4},
		"2000-02-29": {730178, 2000, 2, 29, 2},
		"2024-01-31": {738915, 2024, 1, 31, 3},
		"9999-12-31": {3652058, 9999, 12, 31, 5},
	}
	seen := 0
	for d := range allDays {
		if want, ok := known[d.text()]; ok {
			seen++
			if d != want {
				t.Errorf("%s is %v", d.text(), d)
			}
		}
	}
	if seen != len(known) {
		t.Errorf("%d days are there of %d", seen, len(known))
	}
	if leap := slices.DeleteFunc([]int{1, 4, 100, 200, 300, 400, 1900, 2000, 2023, 2024, 2100, 9996}, func(year int) bool { return !plainLeap(year) }); !slices.Equal(leap, []int{4, 400, 2000, 2024, 9996}) {
		t.Errorf("leap years: %v", leap)
	}
	at := 12*2023 + 1
	if s := plainPeriod(all, at, api.PerQuarter); s != (api.Span{From: 738885, To: 738976}) {
		t.Errorf("a quarter: %v", s)
	}
	if d, e := plainMonths(all, at, -1, 31); d != 738915 || e != api.OK {
		t.Errorf("a month ahead: %d, %d", d, e)
	}
}
