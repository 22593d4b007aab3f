package span_test

import (
	"slices"
	"testing"

	"tollbook/api"
	"tollbook/span"
)

func both(t *testing.T, call func(a, b *span.Set) (*span.Set, api.Errno), a, b *span.Set) *span.Set {
	t.Helper()
	s, e := call(a, b)
	if s == nil || e != api.OK {
		t.Fatalf("error %d", e)
	}
	return s
}

func same(a, b *span.Set) bool {
	return slices.Equal(slices.Collect(a.Spans()), slices.Collect(b.Spans())) && a.Days() == b.Days()
}

// someSets are of all kinds: of no day, of one, of all, of many spans.
func someSets(t *testing.T) []*span.Set {
	t.Helper()
	roll := dice(5)
	sets := []*span.Set{of(t), of(t, from(0, 1)), of(t, from(last, last+1)), of(t, from(0, last+1)), of(t, from(1, last)), of(t, apart(0, 1500, 3, 3)...), of(t, apart(1, 1000, 1, 5)...)}
	for range 12 {
		sets = append(sets, of(t, roll.days(0, 3000, 1+roll.below(50)).spans()...))
	}
	return sets
}

// P11.5: a day is in the union, cut, difference just if it should be.
func TestEachDay(t *testing.T) {
	edges := []api.Date{-1, last - 1, last, last + 1, 738000}
	for d := range api.Date(3010) {
		edges = append(edges, d)
	}
	for _, a := range someSets(t) {
		for _, b := range someSets(t) {
			union, cut, minus := both(t, span.Union, a, b), both(t, span.Cut, a, b), both(t, span.Minus, a, b)
			for _, d := range edges {
				inA, inB := a.Has(d), b.Has(d)
				if union.Has(d) != (inA || inB) || cut.Has(d) != (inA && inB) || minus.Has(d) != (inA && !inB) {
					t.Fatalf("day %d: %v and %v", d, inA, inB)
				}
			}
		}
	}
}

// P11.5: the days of union and cut together are as many as those of both; and
// what else holds of sets.
func TestSetsFollow(t *testing.T) {
	sets := someSets(t)
	for _, a := range sets {
		for _, b := range sets {
			union, cut := both(t, span.Union, a, b), both(t, span.Cut, a, b)
			left, right := both(t, span.Minus, a, b), both(t, span.Minus, b, a)
			if union.Days()+cut.Days() != a.Days()+b.Days() {
				t.Errorf("%d and %d days, of %d and %d", union.Days(), cut.Days(), a.Days(), b.Days())
			}
			if left.Days()+cut.Days() != a.Days() || !same(both(t, span.Union, left, cut), a) {
				t.Error("the difference and the cut are not the set")
			}
			if !same(both(t, span.Minus, a, left), cut) || both(t, span.Cut, left, right).Days() != 0 {
				t.Error("the differences")
			}
			if !same(both(t, span.Union, b, a), union) || !same(both(t, span.Cut, b, a), cut) || !same(both(t, span.Union, both(t, span.Union, left, right), cut), union) {
				t.Error("the other way round")
			}
		}
	}
}

// P11.5: a set's spans rise, neither meet nor touch, have its days, and come to
// the same set.
func TestSpansFollow(t *testing.T) {
	for _, s := range someSets(t) {
		list := slices.Collect(s.Spans())
		count := 0
		for i, x := range list {
			count += int(x.To - x.From)
			if span.Check(x) != api.OK || i > 0 && list[i-1].To >= x.From {
				t.Errorf("%v", x)
			}
			if !s.Has(x.From) || !s.Has(x.To-1) || s.Has(x.From-1) || s.Has(x.To) {
				t.Errorf("the ends of %v", x)
			}
		}
		if count != s.Days() || !same(of(t, list...), s) {
			t.Errorf("%d days of %d", count, s.Days())
		}
	}
}

// P11.5: the same days told by other spans: in another order, twice, cut up, put
// together, one over another.
func TestSameDays(t *testing.T) {
	roll := dice(6)
	for range 200 {
		plain := roll.days(api.Date(roll.below(last-300)), 300, 1+roll.below(40))
		list := plain.spans()
		s := of(t, list...)
		var cut, over, single []api.Span
		for _, x := range list {
			middle := x.From + api.Date(roll.below(int(x.To-x.From)))
			for _, piece := range []api.Span{from(x.From, middle), from(middle, x.To)} {
				if piece.From < piece.To {
					cut = append(cut, piece)
				}
			}
			over = append(over, x, from(middle, x.To), from(x.From, middle+1))
			for d := x.From; d < x.To; d++ {
				single = append(single, from(d, d+1))
			}
		}
		for _, other := range [][]api.Span{roll.mix(list), roll.mix(append(slices.Clone(list), list...)), cut, roll.mix(cut), over, roll.mix(over), single, roll.mix(single), roll.mix(slices.Concat(list, cut, over, single))} {
			if got := of(t, other...); !same(got, s) {
				t.Fatalf("%s is not %s", few(slices.Collect(got.Spans())), few(list))
			}
		}
		one := of(t)
		for _, x := range roll.mix(cut) {
			one = both(t, span.Union, one, of(t, x))
		}
		if !same(one, s) {
			t.Fatal("put together one by one")
		}
	}
}

// P11.5: at each day of a span At says what All says of it, and nothing else.
func TestLinesFollow(t *testing.T) {
	roll := dice(8)
	for range 100 {
		list := roll.days(api.Date(roll.below(last-500)), 500, 1+roll.below(30)).spans()
		l := line(t, numbered(roll.mix(list))...)
		covered := map[api.Date]int{}
		rising := api.Date(-1)
		for s, v := range l.All() {
			if s.From < rising {
				t.Fatalf("%v comes behind %d", s, rising)
			}
			rising = s.To
			for d := s.From; d < s.To; d++ {
				covered[d] = v
			}
		}
		for _, s := range list {
			for d := s.From - 2; d < s.To+2; d++ {
				v, ok := covered[d]
				wantAt(t, l, d, v, ok)
			}
		}
	}
}
