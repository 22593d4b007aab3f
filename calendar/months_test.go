package calendar_test

import (
	"testing"

	"tollbook/api"
	"tollbook/calendar"
)

// steps are by how many months a day is moved: a few, whole years, far, to both
// ends of the months and one beyond, and the ends of 64 bits.
func steps(at, months int) []int {
	list := []int{-1200, 1200, -4800, 4800, 60000, -60000, -at, -at - 1, -at + 1, months - 1 - at, months - at, months - 2 - at, 119988, -119988, 1e18, -1e18, maxInt, maxInt - 1, minInt, minInt + 1, maxInt - at, minInt + at, 1 << 32, -1 << 32, 1<<32 + 1}
	for n := -27; n <= 27; n++ {
		list = append(list, n)
	}
	return list
}

// P10.4: days of months of every kind, moved near and far, over both ends too.
func TestMonths(t *testing.T) {
	all := allMonths()
	for _, at := range someMonths() {
		m := all[at]
		for _, n := range steps(at, len(all)) {
			for _, number := range []int{1, 2, 15, 27, 28, 29, 30, 31} {
				if number > m.days {
					continue
				}
				moved, e := calendar.Months(m.from+api.Date(number-1), n)
				want, wantE := plainMonths(all, at, n, number)
				wantDay(t, "Months"+told(m.year, m.number, number, n), moved, e, want, wantE)
			}
		}
	}
}

// P10.4: from both ends and from one day on into every month that is there.
func TestMonthsIntoEvery(t *testing.T) {
	all := allMonths()
	for _, at := range []int{0, 12*2023 + 0, 12*1999 + 1, len(all) - 1} {
		m := all[at]
		for to := range all {
			moved, e := calendar.Months(m.from+api.Date(m.days-1), to-at)
			want, wantE := plainMonths(all, at, to-at, m.days)
			if moved != want || e != wantE {
				t.Fatalf("Months%s: %d, error %d", told(m.year, m.number, m.days, to-at), moved, e)
			}
		}
	}
}

// P10.4: no month is there ahead of the first one or behind the last one.
func TestMonthsBeyondTheEnds(t *testing.T) {
	for _, c := range []struct {
		d api.Date
		n int
	}{{0, -1}, {30, -1}, {31, -2}, {365, -13}, {api.MaxDate, 1}, {api.MaxDate - 30, 1}, {api.MaxDate - 31, 2}, {738915, 1e18}, {738915, -1e18}, {738915, maxInt}, {738915, minInt}, {0, maxInt}, {0, minInt}, {api.MaxDate, maxInt}, {api.MaxDate, minInt}} {
		moved, e := calendar.Months(c.d, c.n)
		wantDay(t, "Months"+told(int(c.d), c.n), moved, e, 0, api.ErrDate)
	}
}

// P10.5: the periods of the first, a middle and the last day of every month.
func TestPeriod(t *testing.T) {
	all := allMonths()
	for at, m := range all {
		for _, p := range periods() {
			want := plainPeriod(all, at, p)
			for _, n := range []int{0, 1, m.days / 2, m.days - 2, m.days - 1} {
				if s, e := calendar.Period(m.from+api.Date(n), p); s != want || e != api.OK {
					t.Fatalf("Period%s: %v, error %d; wanted %v", told(m.year, m.number, n+1, int(p)), s, e, want)
				}
			}
		}
	}
}

// P10.5: the last periods end behind the last day.
func TestLastPeriods(t *testing.T) {
	for p, from := range map[api.Period]api.Date{api.PerMonth: 3652028, api.PerQuarter: 3651967, api.PerYear: 3651694} {
		if s, e := calendar.Period(api.MaxDate, p); s != (api.Span{From: from, To: api.MaxDate + 1}) || e != api.OK {
			t.Errorf("Period(MaxDate, %d): %v, error %d", p, s, e)
		}
	}
}

// P10.5: periods that are none, of days that are there.
func TestWrongPeriods(t *testing.T) {
	for _, p := range wrongPeriods() {
		for _, d := range []api.Date{0, 1, 364, 738915, api.MaxDate} {
			if s, e := calendar.Period(d, p); s != (api.Span{}) || e != api.ErrArg {
				t.Errorf("Period(%d, %d): %v, error %d", d, p, s, e)
			}
		}
	}
}
