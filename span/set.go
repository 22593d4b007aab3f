package span

import (
	"cmp"
	"iter"
	"slices"
	"sort"

	"tollbook/api"
)

// Set is a set of days.
type Set struct {
	// spans are the fewest that have the set's days, rising: so sets of the same
	// days have the same ones.
	spans []api.Span
	// made tells a set of no days from one that no call made.
	made bool
}

func Of(spans []api.Span) (*Set, api.Errno) {
	if len(spans) > api.MaxEntries {
		return nil, api.ErrLong
	}
	for _, s := range spans {
		if err := Check(s); err != api.OK {
			return nil, err
		}
	}
	return setOf(fewest(slices.Clone(spans)))
}

func (s *Set) Spans() iter.Seq[api.Span] {
	// What the set has is taken now: the iterator tells it whatever is put where
	// the set stands.
	return slices.Values(s.list())
}

func (s *Set) Has(d api.Date) bool {
	list := s.list()
	at := reaching(list, d)
	return at < len(list) && list[at].From <= d
}

func (s *Set) Days() int {
	days := 0
	for x := range s.Spans() {
		days += int(x.To - x.From)
	}
	return days
}

func Union(a, b *Set) (*Set, api.Errno) {
	if !a.isThere() || !b.isThere() {
		return nil, api.ErrNil
	}
	var list []api.Span
	for _, s := range []*Set{a, b} {
		for x := range s.Spans() {
			list = append(list, x)
		}
	}
	return setOf(fewest(list))
}

// Cut need not join what it has gathered: between two pieces there is a day
// that one of both sets does not have. The same goes for Minus.
func Cut(a, b *Set) (*Set, api.Errno) {
	if !a.isThere() || !b.isThere() {
		return nil, api.ErrNil
	}
	var list []api.Span
	for x := range a.Spans() {
		for piece := range b.within(x) {
			list = append(list, piece)
		}
	}
	return setOf(list)
}

func Minus(a, b *Set) (*Set, api.Errno) {
	if !a.isThere() || !b.isThere() {
		return nil, api.ErrNil
	}
	var list []api.Span
	for x := range a.Spans() {
		for hole := range b.within(x) {
			if x.From < hole.From {
				list = append(list, api.Span{From: x.From, To: hole.From})
			}
			x.From = hole.To
		}
		if x.From < x.To {
			list = append(list, x)
		}
	}
	return setOf(list)
}

// setOf keeps the spans: they are the fewest that have their days, rising, and
// nobody else's.
func setOf(spans []api.Span) (*Set, api.Errno) {
	if len(spans) > api.MaxEntries {
		return nil, api.ErrLong
	}
	return &Set{spans: spans, made: true}, api.OK
}

func (s *Set) isThere() bool {
	return s != nil && s.made
}

func (s *Set) list() []api.Span {
	if s == nil {
		return nil
	}
	return s.spans
}

// within goes through the pieces of a set that lie in x, rising. The first one is
// looked for by halving, so that all spans of another set can be asked for one
// behind the other at little more than the cost of going through both sets.
func (s *Set) within(x api.Span) iter.Seq[api.Span] {
	return func(yield func(api.Span) bool) {
		list := s.list()
		for _, y := range list[reaching(list, x.From):] {
			piece, ok := Meet(x, y)
			if !ok || !yield(piece) {
				return
			}
		}
	}
}

// reaching is the place of the first span of a set's that ends behind d: d is
// in this one, or in none.
func reaching(spans []api.Span, d api.Date) int {
	return sort.Search(len(spans), func(i int) bool { return spans[i].To > d })
}

// fewest puts together spans that may be, in whatever order they come; it sorts
// the list that it is given.
func fewest(spans []api.Span) []api.Span {
	slices.SortFunc(spans, func(a, b api.Span) int { return cmp.Compare(a.From, b.From) })
	var list []api.Span
	for _, s := range spans {
		last := len(list) - 1
		if last >= 0 && s.From <= list[last].To {
			list[last].To = max(list[last].To, s.To)
			continue
		}
		list = append(list, s)
	}
	return list
}
