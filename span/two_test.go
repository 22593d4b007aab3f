package span_test

import (
	"testing"

	"tollbook/api"
	"tollbook/span"
)

// wantBoth holds the calls with two sets against days one by one.
func wantBoth(t *testing.T, a, b days) {
	t.Helper()
	x, y := of(t, a.spans()...), of(t, b.spans()...)
	for i, plain := range []days{a.or(b), a.and(b), a.minus(b)} {
		got, e := calls()[i](x, y)
		if e != api.OK {
			t.Fatalf("the call %d of %s and %s: error %d", i, few(a.spans()), few(b.spans()), e)
		}
		wantDays(t, "a call", got, plain)
	}
}

func wantTwo(t *testing.T, a, b *span.Set, union, cut, minus []api.Span) {
	t.Helper()
	for i, list := range [][]api.Span{union, cut, minus} {
		got, e := calls()[i](a, b)
		want(t, []string{"Union", "Cut", "Minus"}[i], got, e, list)
	}
}

// P11.3: the chapter's example.
func TestTwoSets(t *testing.T) {
	a, b := of(t, from(1, 5), from(8, 9)), of(t, from(4, 8))
	all, common := []api.Span{from(1, 9)}, []api.Span{from(4, 5)}
	wantTwo(t, a, b, all, common, []api.Span{from(1, 4), from(8, 9)})
	wantTwo(t, b, a, all, common, []api.Span{from(5, 8)})
}

// P11.3: all pairs of sets of seven days, at the beginning, in the middle and at
// the end of the calendar.
func TestTwoSmallSets(t *testing.T) {
	const width = 7
	for _, first := range []api.Date{0, 738000, last + 1 - width} {
		for a := range 1 << width {
			for b := range 1 << width {
				wantBoth(t, subset(first, width, a), subset(first, width, b))
			}
		}
	}
}

// P11.3: answers that have no day are sets, with which one can go on.
func TestTwoSetsAndNoDay(t *testing.T) {
	none, one, whole := of(t), of(t, from(5, 6)), of(t, from(0, last+1))
	days := []api.Span{from(0, last+1)}
	wantTwo(t, none, none, nil, nil, nil)
	wantTwo(t, none, one, []api.Span{from(5, 6)}, nil, nil)
	wantTwo(t, one, none, []api.Span{from(5, 6)}, nil, []api.Span{from(5, 6)})
	wantTwo(t, one, one, []api.Span{from(5, 6)}, []api.Span{from(5, 6)}, nil)
	wantTwo(t, whole, whole, days, days, nil)
	wantTwo(t, whole, none, days, nil, days)
	wantTwo(t, none, whole, days, nil, nil)
	wantTwo(t, one, whole, days, []api.Span{from(5, 6)}, nil)
	wantTwo(t, whole, one, days, []api.Span{from(5, 6)}, []api.Span{from(0, 5), from(6, last+1)})
	wantTwo(t, one, of(t, from(6, 7)), []api.Span{from(5, 7)}, nil, []api.Span{from(5, 6)})
	noUnion, _ := span.Union(none, none)
	noCut, _ := span.Cut(one, of(t, from(6, 9)))
	noRest, _ := span.Minus(one, whole)
	for _, s := range []*span.Set{noUnion, noCut, noRest} {
		if s.Days() != 0 || s.Has(5) {
			t.Error("a set of no day has one")
		}
		wantTwo(t, s, one, []api.Span{from(5, 6)}, nil, nil)
		wantTwo(t, whole, s, days, nil, days)
		wantTwo(t, s, s, nil, nil, nil)
	}
}

// P11.3: the first day and the last one.
func TestTwoSetsAtTheEnds(t *testing.T) {
	ends, whole := of(t, from(0, 1), from(last, last+1)), of(t, from(0, last+1))
	inner := []api.Span{from(1, last)}
	wantTwo(t, whole, ends, []api.Span{from(0, last+1)}, []api.Span{from(0, 1), from(last, last+1)}, inner)
	rest, _ := span.Minus(whole, ends)
	wantTwo(t, rest, ends, []api.Span{from(0, last+1)}, nil, inner)
	if rest.Has(0) || !rest.Has(1) || !rest.Has(last-1) || rest.Has(last) || rest.Days() != last-1 {
		t.Error("the days but the first and the last one")
	}
}

// P11.3: sets with many spans, in runs of unlike lengths.
func TestTwoGreatSets(t *testing.T) {
	roll := dice(2)
	for _, first := range []api.Date{0, 738000, last + 1 - 4000} {
		for _, one := range []int{1, 2, 3, 10, 100, 4000} {
			for _, other := range []int{1, 2, 3, 10, 100, 4000} {
				for range 5 {
					wantBoth(t, roll.days(first, 4000, one+1), roll.days(first, 4000, other+1))
				}
			}
		}
	}
}

func wantLong(t *testing.T, what string, s *span.Set, e api.Errno) {
	t.Helper()
	if s != nil || e != api.ErrLong {
		t.Errorf("%s: %v, error %d", what, s, e)
	}
}

// P11.3: a union of 4096 spans, of one more, of twice as many, and of few that
// came from many.
func TestHowLongAUnion(t *testing.T) {
	many := apart(0, 4096, 1, 1)
	s, e := span.Union(of(t, many[:2000]...), of(t, many[2000:]...))
	want(t, "4096 of both", s, e, many)
	s, e = span.Union(of(t, many...), of(t, many...))
	want(t, "4096 twice", s, e, many)
	s, e = span.Union(of(t, many...), of(t, from(8191, 8192)))
	want(t, "4096, the last one longer", s, e, append(append([]api.Span{}, many[:4095]...), from(8190, 8192)))
	s, e = span.Union(of(t, many...), of(t, apart(1, 4096, 1, 1)...))
	want(t, "one of 8192", s, e, []api.Span{from(0, 8192)})
	s, e = span.Union(of(t, many...), of(t, from(1, 2), from(9000, 9001)))
	want(t, "two put together, one more", s, e, append(append([]api.Span{from(0, 3)}, many[2:]...), from(9000, 9001)))
	for _, more := range [][]api.Span{{from(8192, 8193)}, {from(last, last+1)}, apart(9000, 4096, 1, 1), apart(9000, 2, 5, 5)} {
		s, e = span.Union(of(t, many...), of(t, more...))
		wantLong(t, "4096 and more", s, e)
		s, e = span.Union(of(t, more...), of(t, many...))
		wantLong(t, "more and 4096", s, e)
	}
	s, e = span.Union(of(t, many[:2049]...), of(t, apart(9000, 2048, 1, 1)...))
	wantLong(t, "4097 of both", s, e)
}

// P11.3: a cut of 4096 spans, of 4097 and of as many as can be.
func TestHowLongACut(t *testing.T) {
	// Each of these but the last one meets two of those that lie 10 days on.
	const long, gap = 15, 5
	for n := 2040; n <= 2060; n++ {
		a, b := apart(0, n, long, gap), apart(10, n, long, gap)
		s, e := span.Cut(of(t, a...), of(t, b...))
		if 2*n-1 > 4096 {
			wantLong(t, "a cut", s, e)
			continue
		}
		want(t, "a cut", s, e, apart(10, 2*n-1, 5, 5))
	}
	// One more than the last that is taken, by one span alone.
	a, b := apart(0, 2049, long, gap), apart(10, 2048, long, gap)
	s, e := span.Cut(of(t, a...), of(t, b...))
	want(t, "4096", s, e, apart(10, 4096, 5, 5))
	s, e = span.Cut(of(t, a...), of(t, apart(10, 2049, long, gap)...))
	wantLong(t, "4097", s, e)
	s, e = span.Cut(of(t, apart(0, 4096, long, gap)...), of(t, apart(10, 4096, long, gap)...))
	wantLong(t, "8191", s, e)
	s, e = span.Cut(of(t, apart(0, 4096, 1, 1)...), of(t, from(0, last+1)))
	want(t, "4096 of one", s, e, apart(0, 4096, 1, 1))
}

// P11.3: a difference of 4096 spans, of 4097 and of as many as can be.
func TestHowLongADifference(t *testing.T) {
	whole := of(t, from(0, last+1))
	s, e := span.Minus(whole, of(t, apart(0, 4096, 1, 1)...))
	want(t, "4096", s, e, append(apart(1, 4095, 1, 1), from(8191, last+1)))
	s, e = span.Minus(whole, of(t, apart(last-2*4095, 4096, 1, 1)...))
	want(t, "4096 up to the last day", s, e, append([]api.Span{from(0, last-2*4095)}, apart(last-2*4095+1, 4095, 1, 1)...))
	s, e = span.Minus(whole, of(t, apart(1, 4095, 1, 1)...))
	want(t, "4096 by 4095", s, e, append(apart(0, 4095, 1, 1), from(8190, last+1)))
	s, e = span.Minus(whole, of(t, apart(1, 4096, 1, 1)...))
	wantLong(t, "4097", s, e)
	many := apart(0, 4096, 3, 1)
	s, e = span.Minus(of(t, many...), of(t, apart(1, 4096, 1, 3)...))
	wantLong(t, "8192", s, e)
	s, e = span.Minus(of(t, many...), of(t, from(1, 2)))
	wantLong(t, "4097 by one", s, e)
	s, e = span.Minus(of(t, many...), of(t, from(1, 2), from(4, 7)))
	want(t, "one more and one less", s, e, append([]api.Span{from(0, 1), from(2, 3)}, many[2:]...))
	s, e = span.Minus(of(t, apart(0, 2048, 3, 1)...), of(t, apart(1, 4096, 1, 3)...))
	want(t, "each in two", s, e, apart(0, 4096, 1, 1))
	s, e = span.Minus(of(t, apart(0, 4096, 1, 1)...), of(t, apart(1, 4096, 1, 1)...))
	want(t, "nothing off", s, e, apart(0, 4096, 1, 1))
}

// P11.3, R2: a set that isn't there is told ahead of an answer that would be too
// long.
func TestNilAheadOfLong(t *testing.T) {
	many := of(t, apart(0, 4096, 1, 1)...)
	for i, call := range calls() {
		for _, none := range []*span.Set{nil, {}} {
			if s, e := call(many, none); s != nil || e != api.ErrNil {
				t.Errorf("the call %d: %v, error %d", i, s, e)
			}
			if s, e := call(none, many); s != nil || e != api.ErrNil {
				t.Errorf("the call %d: %v, error %d", i, s, e)
			}
		}
	}
}
