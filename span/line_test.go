package span_test

import (
	"math"
	"slices"
	"testing"

	"tollbook/api"
	"tollbook/span"
)

func entry[V any](a, b api.Date, v V) span.Entry[V] {
	return span.Entry[V]{Span: from(a, b), Value: v}
}

// numbered are entries with their places as values.
func numbered(list []api.Span) []span.Entry[int] {
	var entries []span.Entry[int]
	for i, s := range list {
		entries = append(entries, span.Entry[int]{Span: s, Value: i})
	}
	return entries
}

func line[V any](t *testing.T, entries ...span.Entry[V]) *span.Line[V] {
	t.Helper()
	l, f := span.New(entries)
	if l == nil || f != (api.Fault{}) {
		t.Fatalf("New of %d entries: %v", len(entries), f)
	}
	return l
}

// all gathers what a line tells.
func all[V any](l *span.Line[V]) []span.Entry[V] {
	var list []span.Entry[V]
	for s, v := range l.All() {
		list = append(list, span.Entry[V]{Span: s, Value: v})
	}
	return list
}

func wantLine[V comparable](t *testing.T, what string, l *span.Line[V], list []span.Entry[V]) {
	t.Helper()
	if got := all(l); !slices.Equal(got, list) {
		t.Fatalf("%s: %v, wanted %v", what, got, list)
	}
	if l.Len() != len(list) {
		t.Fatalf("%s: %d entries, wanted %d", what, l.Len(), len(list))
	}
}

func wantAt[V comparable](t *testing.T, l *span.Line[V], d api.Date, v V, ok bool) {
	t.Helper()
	if got, is := l.At(d); got != v || is != ok {
		t.Fatalf("At(%d): %v, %v; wanted %v, %v", d, got, is, v, ok)
	}
}

func wantFault[V any](t *testing.T, what string, entries []span.Entry[V], err api.Errno, at int) {
	t.Helper()
	if l, f := span.New(entries); l != nil || f != (api.Fault{Err: err, At: at}) {
		t.Errorf("%s: %v, %v; wanted error %d at %d", what, l, f, err, at)
	}
}

// P11.4: the chapter's example; entries whose spans touch stay two, whatever
// their values are.
func TestLine(t *testing.T) {
	l := line(t, entry(5, 7, "x"), entry(1, 3, "y"), entry(3, 5, "x"))
	wantLine(t, "example", l, []span.Entry[string]{entry(1, 3, "y"), entry(3, 5, "x"), entry(5, 7, "x")})
	for d, v := range map[api.Date]string{1: "y", 2: "y", 3: "x", 4: "x", 5: "x", 6: "x"} {
		wantAt(t, l, d, v, true)
	}
	for _, d := range []api.Date{7, 0, -1, 8, last, last + 1, minInt, maxInt} {
		wantAt(t, l, d, "", false)
	}
}

// P11.4: the first day, the last one, and all of them.
func TestLineAtTheEnds(t *testing.T) {
	l := line(t, entry(last, last+1, 9), entry(0, 1, 7))
	wantLine(t, "ends", l, []span.Entry[int]{entry(0, 1, 7), entry(last, last+1, 9)})
	for d, v := range map[api.Date]int{0: 7, last: 9} {
		wantAt(t, l, d, v, true)
	}
	for _, d := range []api.Date{-1, 1, last - 1, last + 1, minInt, maxInt} {
		wantAt(t, l, d, 0, false)
	}
	whole := line(t, entry(0, last+1, 5))
	for _, d := range []api.Date{0, 1, 738000, last - 1, last} {
		wantAt(t, whole, d, 5, true)
	}
	for _, d := range []api.Date{-1, last + 1, minInt, maxInt} {
		wantAt(t, whole, d, 0, false)
	}
}

// P11.4: a line of no entries.
func TestLineOfNone(t *testing.T) {
	for _, list := range [][]span.Entry[int]{nil, {}, numbered(apart(0, 3, 1, 1))[:0]} {
		l, f := span.New(list)
		if l == nil || f != (api.Fault{}) {
			t.Fatalf("%v, %v", l, f)
		}
		wantLine(t, "none", l, nil)
		for _, d := range []api.Date{-1, 0, 1, last, last + 1} {
			wantAt(t, l, d, 0, false)
		}
	}
}

// P11.4, R4: lines that are nil, or that no call made, of several types.
func TestLinesThatAreNotThere(t *testing.T) {
	notThere[int](t)
	notThere[string](t)
	notThere[*int](t)
	notThere[error](t)
	notThere[[3]bool](t)
	notThere[struct{}](t)
}

func notThere[V comparable](t *testing.T) {
	t.Helper()
	var zero V
	for _, l := range []*span.Line[V]{nil, {}, new(span.Line[V])} {
		if l.All() == nil {
			t.Fatal("no iterator")
		}
		wantLine(t, "not there", l, nil)
		for _, d := range []api.Date{0, 1, last, -1, minInt, maxInt} {
			wantAt(t, l, d, zero, false)
		}
	}
}

// P11.4: values of several types are told as they were handed in.
func TestValues(t *testing.T) {
	seven, eight := 7, 7
	pointers := line(t, entry(3, 4, &seven), entry(1, 2, &eight))
	wantAt(t, pointers, 3, &seven, true)
	wantAt(t, pointers, 1, &eight, true)
	wantAt(t, pointers, 2, nil, false)
	wantAt(t, line(t, entry[any](1, 2, nil)), 1, nil, true)
	wantAt(t, line(t, entry[any](1, 2, "x"), entry[any](2, 3, 5)), 2, any(5), true)
	wantAt(t, line(t, entry(1, 2, struct{}{})), 1, struct{}{}, true)
	wantAt(t, line(t, entry(1, 2, struct{}{})), 2, struct{}{}, false)
	wantAt(t, line(t, entry(1, 2, [1000]int{999: 5})), 1, [1000]int{999: 5}, true)
	wantAt(t, line(t, entry(1, 2, false)), 1, false, true)
	wantAt(t, line(t, entry(1, 2, api.Fault{Err: 5, At: 7})), 1, api.Fault{Err: 5, At: 7}, true)
	if v, ok := line(t, entry(1, 2, math.NaN())).At(1); v == v || !ok {
		t.Errorf("NaN: %v, %v", v, ok)
	}
	f := line(t, entry(1, 2, func() int { return 8 }), entry(2, 3, func() int { return 9 }))
	if v, ok := f.At(2); !ok || v() != 9 {
		t.Error("a function")
	}
	if v, ok := f.At(3); ok || v != nil {
		t.Error("no function")
	}
	lines := line(t, entry(1, 2, f))
	if v, ok := lines.At(1); !ok || v != f {
		t.Error("a line on a line")
	}
}

// P11.4: what lies behind a value is its holder's.
func TestWhatLiesBehindAValue(t *testing.T) {
	list := []int{1, 2, 3}
	l := line(t, entry(1, 5, list))
	list[1] = 9
	v, ok := l.At(4)
	if !ok || !slices.Equal(v, []int{1, 9, 3}) || &v[0] != &list[0] {
		t.Errorf("At: %v, %v", v, ok)
	}
	v[2] = 8
	for _, v := range l.All() {
		if !slices.Equal(v, []int{1, 9, 8}) || &v[0] != &list[0] {
			t.Errorf("All: %v", v)
		}
	}
}

// P11.4: 4096 entries are taken, in whatever order; of 4097 it is told ahead of
// all else.
func TestHowManyEntries(t *testing.T) {
	roll := dice(3)
	for _, list := range [][]api.Span{apart(0, 4096, 1, 0), apart(0, 4096, 1, 1), apart(0, 4096, 7, 800), apart(last-4095, 4096, 1, 0), apart(last+1-4096*800, 4096, 800, 0)} {
		entries := numbered(list)
		wantLine(t, "4096", line(t, entries...), entries)
		back := slices.Clone(entries)
		slices.Reverse(back)
		wantLine(t, "4096 falling", line(t, back...), entries)
		var mixed []span.Entry[int]
		for _, s := range roll.mix(list) {
			i := slices.Index(list, s)
			mixed = append(mixed, entries[i])
		}
		wantLine(t, "4096 mixed", line(t, mixed...), entries)
		for _, one := range []api.Span{from(3640000, 3640001), list[0], {}, from(-1, 2)} {
			wantFault(t, "4097", append(slices.Clone(entries), span.Entry[int]{Span: one}), api.ErrLong, -1)
			wantFault(t, "4097", append([]span.Entry[int]{{Span: one}}, entries...), api.ErrLong, -1)
		}
	}
	wantFault(t, "4097 wrong ones", make([]span.Entry[int], 4097), api.ErrLong, -1)
	wantFault(t, "4096 wrong ones", make([]span.Entry[int], 4096), api.ErrSpan, 0)
	wantFault(t, "4096 of one span", numbered(slices.Repeat([]api.Span{from(1, 2)}, 4096)), api.ErrOverlap, 1)
	wantFault(t, "the last one of 4096", numbered(append(apart(0, 4095, 1, 1), from(0, 1))), api.ErrOverlap, 4095)
	wantFault(t, "the last one of 4096", numbered(append(apart(0, 4095, 1, 1), from(1, 1))), api.ErrSpan, 4095)
}

// P11.4: the first one that may not be is told, ahead of any that meet.
func TestEntriesThatMayNotBe(t *testing.T) {
	for _, wrong := range wrongSpans() {
		right := []api.Span{from(1, 3), from(5, 9), from(2, 6)}
		for at := range len(right) + 1 {
			list := slices.Insert(slices.Clone(right), at, wrong)
			wantFault(t, few(list), numbered(list), api.ErrSpan, at)
			for _, other := range wrongSpans() {
				more := append(slices.Clone(list), other)
				wantFault(t, few(more), numbered(more), api.ErrSpan, at)
			}
		}
	}
	wantFault(t, "example", []span.Entry[string]{entry(1, 3, "x"), entry(2, 4, "y"), entry(3, 3, "x")}, api.ErrSpan, 2)
}

// P11.4: the first one that meets one ahead of it, wherever that one stands.
func TestEntriesThatMeet(t *testing.T) {
	for _, c := range []struct {
		list []api.Span
		at   int
	}{
		{[]api.Span{from(1, 3), from(2, 4)}, 1},
		{[]api.Span{from(2, 4), from(1, 3)}, 1},
		{[]api.Span{from(1, 3), from(1, 3)}, 1},
		{[]api.Span{from(1, 9), from(3, 4)}, 1},
		{[]api.Span{from(3, 4), from(1, 9)}, 1},
		{[]api.Span{from(0, 1), from(0, last+1)}, 1},
		{[]api.Span{from(last, last+1), from(0, last+1)}, 1},
		{[]api.Span{from(1, 3), from(3, 5), from(5, 7), from(4, 5)}, 3},
		{[]api.Span{from(1, 3), from(5, 7), from(2, 6)}, 2},
		{[]api.Span{from(1, 3), from(5, 7), from(3, 6)}, 2},
		{[]api.Span{from(1, 3), from(5, 7), from(2, 5)}, 2},
		{[]api.Span{from(1, 3), from(5, 7), from(3, 5), from(6, 8), from(1, 2)}, 3},
		{[]api.Span{from(20, 30), from(10, 15), from(0, 5), from(4, 11)}, 3},
		{[]api.Span{from(20, 30), from(10, 15), from(0, 5), from(5, 10), from(15, 20), from(29, 31)}, 5},
	} {
		wantFault(t, few(c.list), numbered(c.list), api.ErrOverlap, c.at)
		line(t, numbered(c.list[:c.at])...)
	}
	wantFault(t, "example", []span.Entry[string]{entry(1, 3, "x"), entry(2, 4, "y")}, api.ErrOverlap, 1)
	wantFault(t, "same values", []span.Entry[string]{entry(1, 3, "x"), entry(2, 4, "x")}, api.ErrOverlap, 1)
}

// plainNew asks each pair of spans, and lays values on days one by one.
func plainNew(list []api.Span) api.Fault {
	for i, s := range list {
		if s.From < 0 || s.To <= s.From || s.To > last+1 {
			return api.Fault{Err: api.ErrSpan, At: i}
		}
	}
	for i, s := range list {
		for _, ahead := range list[:i] {
			if _, meets := plainMeet(s, ahead); meets {
				return api.Fault{Err: api.ErrOverlap, At: i}
			}
		}
	}
	return api.Fault{}
}

// wantAsPlain holds a line of these spans against days one by one.
func wantAsPlain(t *testing.T, list []api.Span, first api.Date, width int) {
	t.Helper()
	l, f := span.New(numbered(list))
	if plain := plainNew(list); f != plain || (l == nil) != (f != api.Fault{}) {
		t.Fatalf("%s: %v, wanted %v", few(list), f, plain)
	}
	if l == nil {
		return
	}
	for d := first - 1; d <= first+api.Date(width); d++ {
		at := slices.IndexFunc(list, func(s api.Span) bool { return s.From <= d && d < s.To })
		wantAt(t, l, d, max(at, 0), at >= 0)
	}
	rising := numbered(list)
	slices.SortFunc(rising, func(a, b span.Entry[int]) int { return int(a.Span.From - b.Span.From) })
	wantLine(t, few(list), l, rising)
}

// P11.4: up to four spans of a few days, those that may not be among them, in
// every order that there is.
func TestAllSmallLines(t *testing.T) {
	for _, first := range []api.Date{0, 50, last - 3} {
		var list []api.Span
		for a := first; a <= first+4; a++ {
			for b := a; b <= first+4; b++ {
				list = append(list, from(a, b))
			}
		}
		for _, a := range list {
			wantAsPlain(t, []api.Span{a}, first, 4)
			for _, b := range list {
				for _, c := range list {
					wantAsPlain(t, []api.Span{a, b, c}, first, 4)
				}
				for i := range 2 * len(list) {
					wantAsPlain(t, []api.Span{a, b, list[i%len(list)], list[(i*7+3)%len(list)]}, first, 4)
				}
			}
		}
	}
}

// P11.4: many entries, mixed, with none, one or some that meet or may not be.
func TestManyEntries(t *testing.T) {
	roll := dice(4)
	for range 300 {
		n := 1 + roll.below(200)
		first := []api.Date{0, 738000, last + 1 - 2000}[roll.below(3)]
		list := roll.mix(apart(first, n, api.Date(1+roll.below(5)), api.Date(roll.below(5))))
		switch roll.below(3) {
		case 1:
			list[roll.below(n)] = list[roll.below(n)]
		case 2:
			list[roll.below(n)].From += api.Date(roll.below(4))
			list[roll.below(n)].To += api.Date(roll.below(4))
		}
		wantAsPlain(t, list, first, 2000)
	}
}

// R4: a line's iterator may be left at each place, and gone through again.
func TestAllLeftEarly(t *testing.T) {
	entries := numbered(apart(3, 6, 2, 1))
	told := line(t, entries...).All()
	for stop := range len(entries) + 1 {
		var got []span.Entry[int]
		for s, v := range told {
			if len(got) == stop {
				break
			}
			got = append(got, span.Entry[int]{Span: s, Value: v})
		}
		if !slices.Equal(got, entries[:stop]) {
			t.Errorf("up to %d: %v", stop, got)
		}
		again := 0
		for s, v := range told {
			if entries[again] != (span.Entry[int]{Span: s, Value: v}) {
				t.Errorf("again: %v, %d", s, v)
			}
			again++
		}
		if again != len(entries) {
			t.Errorf("again: %d entries", again)
		}
	}
	asked := 0
	told(func(api.Span, int) bool { asked++; return false })
	if asked != 1 {
		t.Errorf("asked %d times behind a no", asked)
	}
}

// R4: a line's iterator tells what was there when it was made.
func TestAllOfThen(t *testing.T) {
	l := line(t, entry(1, 3, 7), entry(5, 6, 8))
	told := l.All()
	*l = *line(t, entry(10, 20, 9))
	sum := 0
	for s, v := range told {
		sum += int(s.From) * v
	}
	if sum != 1*7+5*8 {
		t.Errorf("%d", sum)
	}
	empty := &span.Line[int]{}
	told = empty.All()
	*empty = *l
	for s := range told {
		t.Errorf("%v", s)
	}
}
