package calendar_test

import (
	"testing"

	"tollbook/api"
	"tollbook/calendar"
)

// P10.6: of every day its parts and its text lead back to it, and the day behind
// it has the weekday behind its.
func TestThereAndBack(t *testing.T) {
	t.Parallel()
	ahead := 0
	for d := api.Date(0); d <= api.MaxDate; d++ {
		year, month, n, _ := calendar.Parts(d)
		if back, e := calendar.Of(year, month, n); back != d || e != api.OK {
			t.Fatalf("Of(Parts(%d)): %d, error %d", d, back, e)
		}
		text, _ := calendar.Text(d)
		if back, e := calendar.Parse(text); back != d || e != api.OK {
			t.Fatalf("Parse(Text(%d)): %d, error %d", d, back, e)
		}
		inWeek, e := calendar.Weekday(d)
		if inWeek != ahead%7+1 || e != api.OK {
			t.Fatalf("Weekday(%d): %d behind %d, error %d", d, inWeek, ahead, e)
		}
		ahead = inWeek
	}
}

// P10.6: a period has its day in it, is the same for each day in it, and the
// next one begins where it ends.
func TestPeriodsFollow(t *testing.T) {
	t.Parallel()
	for _, p := range periods() {
		last := api.Span{}
		for d := api.Date(0); d <= api.MaxDate; d++ {
			s, e := calendar.Period(d, p)
			if e != api.OK || d < s.From || d >= s.To {
				t.Fatalf("Period(%d, %d): %v, error %d", d, p, s, e)
			}
			if s != last && (s.From != last.To || s.From != d) {
				t.Fatalf("%v comes behind %v", s, last)
			}
			last = s
		}
		if last.To != api.MaxDate+1 {
			t.Errorf("the last period ends at %d", last.To)
		}
	}
}

// P10.6: where no day is cut off, months there and back lead to the same day;
// else to one ahead of it.
func TestMonthsThereAndBack(t *testing.T) {
	moves := []int{0, 1, -1, 2, 3, 11, 12, -12, 13, -25, 48, 1200, -4800, 50000, -50000}
	for d := api.Date(0); d <= api.MaxDate; d += 23 {
		_, _, n, _ := calendar.Parts(d)
		for _, by := range moves {
			moved, e := calendar.Months(d, by)
			if e != api.OK {
				continue
			}
			_, _, m, _ := calendar.Parts(moved)
			back, e := calendar.Months(moved, -by)
			if m > n || e != api.OK || back != d-api.Date(n-m) {
				t.Fatalf("Months(Months(%d, %d), %d): %d, error %d", d, by, -by, back, e)
			}
		}
	}
}

// P10.6: a later day is never moved ahead of an earlier one, and months on
// months are months.
func TestMonthsKeepTheOrder(t *testing.T) {
	for _, by := range []int{1, -1, 5, -13, 1200} {
		last := api.Date(-1)
		for d := api.Date(700000); d < 710000; d++ {
			moved, e := calendar.Months(d, by)
			if moved < last || e != api.OK {
				t.Fatalf("Months(%d, %d): %d, error %d", d, by, moved, e)
			}
			last = moved
		}
	}
	first := api.Date(0)
	for n := range 119988 {
		moved, e := calendar.Months(0, n)
		if moved != first || e != api.OK {
			t.Fatalf("Months(0, %d): %d, error %d", n, moved, e)
		}
		s, _ := calendar.Period(moved, api.PerMonth)
		first = s.To
	}
}
