package calendar_test

import (
	"testing"

	"tollbook/api"
	"tollbook/calendar"
)

// answers are all that the calls tell of a day, a number, a period and a text.
type answers struct {
	days    [3]api.Date
	numbers [4]int
	text    string
	span    api.Span
	errs    [7]api.Errno
}

func ask(d api.Date, n int, p api.Period, s string) answers {
	var a answers
	a.days[0], a.errs[0] = calendar.Of(int(d)%10001, n, n+9)
	a.days[1], a.errs[1] = calendar.Parse(s)
	a.days[2], a.errs[2] = calendar.Months(d, n)
	a.numbers[0], a.numbers[1], a.numbers[2], a.errs[3] = calendar.Parts(d)
	a.numbers[3], a.errs[4] = calendar.Weekday(d)
	a.text, a.errs[5] = calendar.Text(d)
	a.span, a.errs[6] = calendar.Period(d, p)
	return a
}

func wantNothingBeside(t *testing.T, a answers) {
	t.Helper()
	for i, beside := range []bool{a.days[0] != 0, a.days[1] != 0, a.days[2] != 0, [3]int(a.numbers[:3]) != [3]int{}, a.numbers[3] != 0, a.text != "", a.span != (api.Span{})} {
		if a.errs[i] != api.OK && beside {
			t.Errorf("the call number %d answers beside the error %d", i, a.errs[i])
		}
	}
}

// R2, R3, R6: the same calls answer the same, wherever a text stands, and
// nothing stands beside an error.
func TestNothingChanges(t *testing.T) {
	for _, d := range append(wrongDays(), 0, 1, 58, 59, 364, 365, 738915, api.MaxDate) {
		for _, n := range []int{0, 1, -1, 2, 12, 13, 20, maxInt, minInt} {
			for _, p := range append(periods(), wrongPeriods()...) {
				for _, s := range []string{"", "2024-01-31", "2024-02-30", "9999-12-31", "0000-01-01", "2024-01-31 ", "2024-0é-1"} {
					first := ask(d, n, p, s)
					part := ("1" + s + "1")[1 : 1+len(s)]
					if ask(d, n, p, part) != first {
						t.Errorf("%d, %d, %d, %q: other answers the next time", d, n, p, s)
					}
					wantNothingBeside(t, first)
				}
			}
		}
	}
}

// R8: calls may be made at one time.
func TestAtOneTime(t *testing.T) {
	for d := api.Date(0); d < api.MaxDate; d += 100003 {
		want := ask(d, 7, api.PerQuarter, "2024-02-29")
		done := make(chan bool)
		for range 8 {
			go func() { done <- ask(d, 7, api.PerQuarter, "2024-02-29") == want }()
		}
		for range 8 {
			if !<-done {
				t.Errorf("%d: calls at one time disturb each other", d)
			}
		}
	}
}
