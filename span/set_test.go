package span_test

import (
	"slices"
	"testing"

	"tollbook/api"
	"tollbook/span"
)

// wantDays holds all that a set tells against days one by one.
func wantDays(t *testing.T, what string, s *span.Set, d days) {
	t.Helper()
	want(t, what, s, api.OK, d.spans())
	if s.Days() != d.count() {
		t.Fatalf("%s: %d days, wanted %d", what, s.Days(), d.count())
	}
	for i, in := range d.in {
		if s.Has(d.first+api.Date(i)) != in {
			t.Fatalf("%s: Has(%d) is not %v", what, d.first+api.Date(i), in)
		}
	}
	for _, day := range []api.Date{d.first - 1, d.first + api.Date(len(d.in)), -1, last + 1, minInt, maxInt} {
		if s.Has(day) {
			t.Fatalf("%s has %d", what, day)
		}
	}
}

// P11.2: the chapter's example, and sets at both ends of the calendar.
func TestOf(t *testing.T) {
	s := of(t, from(7, 9), from(1, 3), from(3, 4), from(2, 4))
	want(t, "example", s, api.OK, []api.Span{from(1, 4), from(7, 9)})
	if s.Days() != 5 || !s.Has(3) || s.Has(4) || s.Has(-1) || s.Has(6) || !s.Has(7) || s.Has(9) {
		t.Error("its days")
	}
	for _, c := range []struct {
		in, out []api.Span
		days    int
	}{
		{[]api.Span{from(0, last+1)}, []api.Span{from(0, last+1)}, last + 1},
		{[]api.Span{from(last, last+1), from(0, 1)}, []api.Span{from(0, 1), from(last, last+1)}, 2},
		{[]api.Span{from(1, last+1), from(0, 1)}, []api.Span{from(0, last+1)}, last + 1},
		{[]api.Span{from(0, last+1), from(5, 6), from(0, 1), from(last, last+1)}, []api.Span{from(0, last+1)}, last + 1},
		{[]api.Span{from(1, 9), from(2, 3), from(4, 5), from(9, 10), from(11, 12)}, []api.Span{from(1, 10), from(11, 12)}, 10},
		{[]api.Span{from(4, 5), from(4, 9), from(4, 6)}, []api.Span{from(4, 9)}, 5},
		{[]api.Span{from(4, 9), from(4, 5)}, []api.Span{from(4, 9)}, 5},
	} {
		s := of(t, c.in...)
		want(t, few(c.in), s, api.OK, c.out)
		if s.Days() != c.days {
			t.Errorf("%s: %d days", few(c.in), s.Days())
		}
	}
}

// P11.2: sets of no spans are there, and have no day.
func TestOfNone(t *testing.T) {
	for _, list := range [][]api.Span{nil, {}, make([]api.Span, 0, 5), apart(0, 3, 1, 1)[:0]} {
		s, e := span.Of(list)
		want(t, "none", s, e, nil)
		if s.Days() != 0 || s.Has(0) || s.Has(last) || s.Has(-1) {
			t.Error("a set of no spans has days")
		}
	}
}

// P11.2: up to three spans of a few days, in every order that there is.
func TestOfAllSmallOnes(t *testing.T) {
	for _, first := range []api.Date{0, 50, last - 4} {
		var list []api.Span
		for a := first; a < first+5; a++ {
			for b := a + 1; b <= first+5; b++ {
				list = append(list, from(a, b))
			}
		}
		for _, a := range list {
			for _, b := range list {
				for _, c := range list {
					in := []api.Span{a, b, c}
					wantDays(t, few(in), of(t, in...), plainOf(first, 5, in))
				}
			}
		}
	}
}

func plainOf(first api.Date, width int, list []api.Span) days {
	d := days{first, make([]bool, width)}
	for _, s := range list {
		for day := s.From; day < s.To; day++ {
			d.in[day-first] = true
		}
	}
	return d
}

// P11.2: many spans of many lengths.
func TestOfMany(t *testing.T) {
	roll := dice(1)
	for _, n := range []int{1, 2, 3, 10, 100, 1000, 4096} {
		for _, length := range []int{1, 2, 5, 100} {
			for _, first := range []api.Date{0, 738000, last + 1 - 9000} {
				var list []api.Span
				for range n {
					at := first + api.Date(roll.below(9000-length))
					list = append(list, from(at, at+1+api.Date(roll.below(length))))
				}
				wantDays(t, "many", of(t, list...), plainOf(first, 9000, list))
			}
		}
	}
}

// P11.2: 4096 spans are taken, whatever they come to; 4097 are not, whatever
// they are.
func TestHowManySpans(t *testing.T) {
	for _, list := range [][]api.Span{
		apart(0, 4096, 1, 1),
		apart(last-2*4096+2, 4096, 1, 1),
		apart(0, 4096, 7, 800),
		apart(0, 4096, 1, 0),
		slices.Repeat([]api.Span{from(4, 9)}, 4096),
		slices.Repeat([]api.Span{from(0, last+1)}, 4096),
	} {
		s, e := span.Of(list)
		if s == nil || e != api.OK {
			t.Fatalf("4096 spans: error %d", e)
		}
		for _, one := range []api.Span{from(4, 9), list[4095], from(0, last+1), {}, from(4, 4), from(-1, 2)} {
			for _, more := range [][]api.Span{append(slices.Clone(list), one), append([]api.Span{one}, list...), append(slices.Clone(list), list...)} {
				if s, e := span.Of(more); s != nil || e != api.ErrLong {
					t.Errorf("%d spans: %v, error %d", len(more), s, e)
				}
			}
		}
	}
	want(t, "4096 apart", of(t, apart(last-2*4096+2, 4096, 1, 1)...), api.OK, apart(last-2*4096+2, 4096, 1, 1))
	want(t, "4096 that touch", of(t, apart(0, 4096, 1, 0)...), api.OK, []api.Span{from(0, 4096)})
	if s, e := span.Of(slices.Repeat([]api.Span{from(4, 4)}, 4097)); s != nil || e != api.ErrLong {
		t.Errorf("4097 wrong ones: %v, error %d", s, e)
	}
	if s, e := span.Of(slices.Repeat([]api.Span{from(4, 4)}, 4096)); s != nil || e != api.ErrSpan {
		t.Errorf("4096 wrong ones: %v, error %d", s, e)
	}
}

// P11.2: one span that may not be, in each place.
func TestOfWrongSpans(t *testing.T) {
	right := []api.Span{from(1, 3), from(0, last+1), from(5, 6)}
	for _, wrong := range wrongSpans() {
		for at := range len(right) + 1 {
			list := slices.Insert(slices.Clone(right), at, wrong)
			if s, e := span.Of(list); s != nil || e != api.ErrSpan {
				t.Errorf("%s: %v, error %d", few(list), s, e)
			}
		}
		if s, e := span.Of([]api.Span{wrong}); s != nil || e != api.ErrSpan {
			t.Errorf("%s: %v, error %d", told(wrong), s, e)
		}
	}
	if s, e := span.Of(append(apart(0, 4095, 1, 1), from(9, 9))); s != nil || e != api.ErrSpan {
		t.Errorf("the last one of 4096: %v, error %d", s, e)
	}
}

// P11.2, P11.3, R4: sets that are nil, or that no call made.
func TestSetsThatAreNotThere(t *testing.T) {
	right := of(t, from(0, last+1))
	none := of(t)
	for _, s := range []*span.Set{nil, {}, new(span.Set)} {
		told := s.Spans()
		if told == nil {
			t.Fatal("no iterator")
		}
		for range 2 {
			for x := range told {
				t.Errorf("it has %v", x)
			}
		}
		for _, d := range []api.Date{0, 1, last, -1, minInt, maxInt} {
			if s.Has(d) {
				t.Errorf("it has %d", d)
			}
		}
		if s.Days() != 0 {
			t.Errorf("%d days", s.Days())
		}
		for _, other := range []*span.Set{right, none, nil, {}, s} {
			for i, call := range calls() {
				for _, pair := range [][2]*span.Set{{s, other}, {other, s}} {
					if got, e := call(pair[0], pair[1]); got != nil || e != api.ErrNil {
						t.Errorf("the call %d: %v, error %d", i, got, e)
					}
				}
			}
		}
	}
}

// calls are those with two sets.
func calls() []func(a, b *span.Set) (*span.Set, api.Errno) {
	return []func(a, b *span.Set) (*span.Set, api.Errno){span.Union, span.Cut, span.Minus}
}

// R4: an iterator may be left at each place, and gone through again.
func TestSpansLeftEarly(t *testing.T) {
	list := apart(5, 6, 2, 3)
	s := of(t, list...)
	told := s.Spans()
	for stop := range len(list) + 1 {
		var got []api.Span
		for x := range told {
			if len(got) == stop {
				break
			}
			got = append(got, x)
		}
		if !slices.Equal(got, list[:stop]) {
			t.Errorf("up to %d: %v", stop, got)
		}
		if all := slices.Collect(told); !slices.Equal(all, list) {
			t.Errorf("again: %v", all)
		}
	}
	asked := 0
	told(func(api.Span) bool { asked++; return false })
	if asked != 1 {
		t.Errorf("asked %d times behind a no", asked)
	}
	pairs := 0
	for a := range told {
		for b := range told {
			if a != b {
				pairs++
			}
		}
	}
	if pairs != 30 {
		t.Errorf("one in the other: %d pairs", pairs)
	}
}

// R4: an iterator tells what was there when it was made.
func TestSpansOfThen(t *testing.T) {
	s := of(t, from(1, 3), from(5, 7))
	told := s.Spans()
	*s = *of(t, from(10, 20))
	if got := slices.Collect(told); !slices.Equal(got, []api.Span{from(1, 3), from(5, 7)}) {
		t.Errorf("%v", got)
	}
	empty := &span.Set{}
	told = empty.Spans()
	*empty = *s
	for x := range told {
		t.Errorf("%v", x)
	}
}
