package span_test

import (
	"slices"
	"testing"

	"tollbook/api"
	"tollbook/span"
)

// R3: lists that are handed in are neither changed nor kept, nor is the room
// behind their ends.
func TestListsOfSpans(t *testing.T) {
	whole := []api.Span{from(7, 9), from(1, 3), from(3, 4), from(2, 4), from(100, 200), from(-5, 3)}
	room := slices.Clone(whole)
	s := of(t, room[:4]...)
	other := of(t, from(3, 8))
	for _, call := range calls() {
		both(t, call, s, other)
		both(t, call, other, s)
	}
	if !slices.Equal(room, whole) {
		t.Errorf("changed: %v", room)
	}
	for i := range room {
		room[i] = from(500, 600)
	}
	want(t, "kept", s, api.OK, []api.Span{from(1, 4), from(7, 9)})
	if s.Has(500) || !s.Has(8) || s.Days() != 5 {
		t.Error("the set has changed")
	}
}

// R3: the same of a line's entries.
func TestListsOfEntries(t *testing.T) {
	whole := numbered([]api.Span{from(7, 9), from(1, 3), from(3, 4), from(2, 4), from(-5, 3)})
	room := slices.Clone(whole)
	l := line(t, room[:3]...)
	wantFault(t, "those that meet", room[:4], api.ErrOverlap, 3)
	wantFault(t, "all", room, api.ErrSpan, 4)
	if !slices.Equal(room, whole) {
		t.Errorf("changed: %v", room)
	}
	for i := range room {
		room[i] = entry(500, 600, 99)
	}
	wantLine(t, "kept", l, []span.Entry[int]{whole[1], whole[2], whole[0]})
	wantAt(t, l, 8, 0, true)
	wantAt(t, l, 500, 0, false)
}

// R6: sets that come out of others share nothing with them, and the others stay
// what they were.
func TestSetsStay(t *testing.T) {
	a, b, none := of(t, from(1, 5), from(8, 9)), of(t, from(4, 8)), of(t)
	first, second := slices.Collect(a.Spans()), slices.Collect(b.Spans())
	var answers []*span.Set
	for _, call := range calls() {
		for _, pair := range [][2]*span.Set{{a, b}, {b, a}, {a, a}, {a, none}, {none, a}} {
			s := both(t, call, pair[0], pair[1])
			again := both(t, call, pair[0], pair[1])
			if s == a || s == b || s == none || s == again || !same(s, again) {
				t.Error("no set of its own")
			}
			answers = append(answers, s)
		}
	}
	if !slices.Equal(slices.Collect(a.Spans()), first) || !slices.Equal(slices.Collect(b.Spans()), second) || none.Days() != 0 {
		t.Error("a set has changed")
	}
	for _, s := range answers {
		list := slices.Collect(s.Spans())
		for _, other := range answers {
			both(t, span.Union, s, other)
			both(t, span.Minus, s, other)
		}
		if !slices.Equal(slices.Collect(s.Spans()), list) {
			t.Error("an answer has changed")
		}
	}
}

// R8: calls may be made at one time, and asking one set or line changes nothing
// of it.
func TestAtOneTime(t *testing.T) {
	a, b := of(t, apart(0, 2000, 3, 3)...), of(t, apart(2, 1000, 5, 5)...)
	l := line(t, numbered(apart(0, 1000, 2, 1))...)
	ask := func() [6]int {
		union, _ := span.Union(a, b)
		cut, _ := span.Cut(a, b)
		minus, _ := span.Minus(a, b)
		sum := 0
		for s, v := range l.All() {
			sum += int(s.From) * v
		}
		at, _ := l.At(1500)
		return [6]int{union.Days(), cut.Days(), minus.Days(), sum, at, l.Len()}
	}
	want := ask()
	done := make(chan bool)
	for range 8 {
		go func() { done <- ask() == want }()
	}
	for range 8 {
		if !<-done {
			t.Error("calls at one time disturb each other")
		}
	}
}
