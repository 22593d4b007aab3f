package span_test

import (
	"strconv"
	"testing"

	"tollbook/api"
	"tollbook/span"
)

func told(s api.Span) string {
	return strconv.Itoa(int(s.From)) + "-" + strconv.Itoa(int(s.To))
}

// P11.1: spans of one day, of all days, at both ends.
func TestSpansThatMayBe(t *testing.T) {
	for _, s := range []api.Span{from(0, 1), from(0, 2), from(1, 2), from(3, 5), from(0, last), from(1, last), from(0, last+1), from(1, last+1), from(last-1, last), from(last, last+1), from(last-1, last+1), from(738885, 738976)} {
		if e := span.Check(s); e != api.OK {
			t.Errorf("Check(%s): error %d", told(s), e)
		}
	}
}

// P11.1: spans that end where they begin or ahead of it, begin below 0 or end
// behind MaxDate + 1.
func TestSpansThatMayNotBe(t *testing.T) {
	for _, s := range wrongSpans() {
		if e := span.Check(s); e != api.ErrSpan {
			t.Errorf("Check(%s): error %d", told(s), e)
		}
	}
}

// P11.1: all pairs of ends around both ends of the calendar.
func TestCheckAtTheEnds(t *testing.T) {
	for _, base := range []api.Date{0, last + 1} {
		for a := base - 4; a <= base+4; a++ {
			for b := base - 4; b <= base+4; b++ {
				may := a >= 0 && b > a && b-1 <= last
				if e := span.Check(from(a, b)); (e == api.OK) != may || !may && e != api.ErrSpan {
					t.Errorf("Check(%s): error %d", told(from(a, b)), e)
				}
			}
		}
	}
}

func wantMeet(t *testing.T, a, b, common api.Span, ok bool) {
	t.Helper()
	if got, is := span.Meet(a, b); got != common || is != ok {
		t.Errorf("Meet(%s, %s): %s, %v; wanted %s, %v", told(a), told(b), told(got), is, told(common), ok)
	}
	if got, is := span.Meet(b, a); got != common || is != ok {
		t.Errorf("Meet(%s, %s): %s, %v; wanted %s, %v", told(b), told(a), told(got), is, told(common), ok)
	}
}

// P11.1: spans apart, that touch, that meet on one day, one in the other, the
// same.
func TestMeet(t *testing.T) {
	for _, c := range []struct {
		a, b, common api.Span
	}{
		{from(0, 5), from(3, 9), from(3, 5)},
		{from(0, 5), from(4, 9), from(4, 5)},
		{from(0, 5), from(0, 5), from(0, 5)},
		{from(0, 5), from(0, 9), from(0, 5)},
		{from(0, 9), from(5, 9), from(5, 9)},
		{from(0, 9), from(3, 4), from(3, 4)},
		{from(0, last+1), from(0, 1), from(0, 1)},
		{from(0, last+1), from(last, last+1), from(last, last+1)},
		{from(0, last+1), from(0, last+1), from(0, last+1)},
		{from(7, 8), from(7, 8), from(7, 8)},
	} {
		wantMeet(t, c.a, c.b, c.common, true)
	}
	for _, c := range [][2]api.Span{
		{from(0, 5), from(5, 9)}, {from(0, 5), from(6, 9)}, {from(0, 1), from(1, 2)}, {from(0, 1), from(last, last+1)}, {from(0, last), from(last, last+1)},
	} {
		wantMeet(t, c[0], c[1], api.Span{}, false)
	}
}

// P11.1: what may not be meets nothing, neither what has it in it nor itself.
func TestMeetOfSpansThatMayNotBe(t *testing.T) {
	for _, wrong := range wrongSpans() {
		for _, s := range []api.Span{from(0, 5), from(0, last+1), from(2, 4), from(last, last+1), from(3, 5)} {
			wantMeet(t, wrong, s, api.Span{}, false)
		}
		for _, other := range wrongSpans() {
			wantMeet(t, wrong, other, api.Span{}, false)
		}
	}
}

// P11.1: all pairs of spans of a few days, those that may not be among them,
// held against the days that both have.
func TestMeetDayByDay(t *testing.T) {
	for _, base := range []api.Date{0, 100, last - 4} {
		var list []api.Span
		for a := base - 2; a <= base+7; a++ {
			for b := base - 2; b <= base+7; b++ {
				list = append(list, from(a, b))
			}
		}
		for _, a := range list {
			for _, b := range list {
				common, ok := api.Span{}, false
				if a.From >= 0 && a.To <= last+1 && b.From >= 0 && b.To <= last+1 {
					common, ok = plainMeet(a, b)
				}
				wantMeet(t, a, b, common, ok)
			}
		}
	}
}

func plainMeet(a, b api.Span) (api.Span, bool) {
	var common []api.Date
	for d := a.From; d < a.To; d++ {
		if b.From <= d && d < b.To {
			common = append(common, d)
		}
	}
	if len(common) == 0 {
		return api.Span{}, false
	}
	return from(common[0], common[len(common)-1]+1), true
}
