package calendar_test

import (
	"testing"

	"tollbook/api"
	"tollbook/calendar"
)

// P10.1: every day that is there, there and back.
func TestEveryDay(t *testing.T) {
	t.Parallel()
	for d := range allDays {
		if got, e := calendar.Of(d.year, d.month, d.n); got != d.d || e != api.OK {
			t.Fatalf("Of(%v): %d, error %d", d, got, e)
		}
		if year, month, n, e := calendar.Parts(d.d); year != d.year || month != d.month || n != d.n || e != api.OK {
			t.Fatalf("Parts(%d):%s, error %d", d.d, told(year, month, n), e)
		}
	}
}

func wantNoDay(t *testing.T, year, month, n int) {
	t.Helper()
	d, e := calendar.Of(year, month, n)
	wantDay(t, "Of"+told(year, month, n), d, e, 0, api.ErrDate)
}

// P10.1: of each month the numbers just outside its days are none, and 29
// February is there in leap years alone.
func TestDaysOutsideMonths(t *testing.T) {
	for _, m := range allMonths() {
		wantNoDay(t, m.year, m.number, 0)
		wantNoDay(t, m.year, m.number, -1)
		wantNoDay(t, m.year, m.number, m.days+1)
		wantNoDay(t, m.year, m.number, 32)
	}
	for _, year := range []int{1, 3, 100, 200, 300, 500, 1700, 1800, 1900, 2023, 2100, 9999} {
		wantNoDay(t, year, 2, 29)
	}
	for year, want := range map[int]api.Date{4: 1154, 400: 145790, 2000: 730178, 2024: 738944} {
		d, e := calendar.Of(year, 2, 29)
		wantDay(t, "29 February", d, e, want, api.OK)
	}
}

// P10.1: years and months that are none, beside those that are, near and far.
func TestOfWrong(t *testing.T) {
	far := []int{-1, -4, -400, 256, 10000 * 400, 1 << 32, 1<<32 + 1, -1 << 32, 1 << 62, maxInt, maxInt - 1, minInt, minInt + 1}
	for _, year := range append(far[:3:3], 0, 10000, 10001, 12000, 1<<32, 1<<32+1, -1<<32, maxInt, minInt, minInt+1) {
		for month := -1; month <= 14; month++ {
			for _, n := range []int{-1, 0, 1, 28, 29, 31, 32} {
				wantNoDay(t, year, month, n)
			}
		}
	}
	for _, year := range []int{1, 4, 2023, 2024, 9999} {
		for _, month := range append(far, 0, 13, 14, 24, 100) {
			for _, n := range []int{0, 1, 28, 31, minInt, maxInt} {
				wantNoDay(t, year, month, n)
			}
		}
		for month := 1; month <= 12; month++ {
			for _, n := range append(far, 0, 32, 33, 365, 366) {
				wantNoDay(t, year, month, n)
			}
		}
	}
}

// P10.1 to P10.5, R2: of days that are not there every call tells that alone,
// and ahead of a period that is none.
func TestDaysThatAreNotThere(t *testing.T) {
	for _, d := range wrongDays() {
		if year, month, n, e := calendar.Parts(d); year != 0 || month != 0 || n != 0 || e != api.ErrDate {
			t.Errorf("Parts(%d):%s, error %d", d, told(year, month, n), e)
		}
		if s, e := calendar.Text(d); s != "" || e != api.ErrDate {
			t.Errorf("Text(%d): %q, error %d", d, s, e)
		}
		if n, e := calendar.Weekday(d); n != 0 || e != api.ErrDate {
			t.Errorf("Weekday(%d): %d, error %d", d, n, e)
		}
		for _, n := range []int{0, 1, -1, 12, -12, 1000, maxInt, minInt} {
			moved, e := calendar.Months(d, n)
			wantDay(t, "Months", moved, e, 0, api.ErrDate)
		}
		for _, p := range append(periods(), wrongPeriods()...) {
			if s, e := calendar.Period(d, p); s != (api.Span{}) || e != api.ErrDate {
				t.Errorf("Period(%d, %d): %v, error %d", d, p, s, e)
			}
		}
	}
}

// P10.3: every day that is there has the weekday behind the one ahead of it.
func TestWeekday(t *testing.T) {
	t.Parallel()
	for d := range allDays {
		if n, e := calendar.Weekday(d.d); n != d.inWeek || e != api.OK {
			t.Fatalf("Weekday(%d): %d, error %d", d.d, n, e)
		}
	}
}
