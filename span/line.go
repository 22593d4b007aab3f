package span

import (
	"iter"
	"slices"
	"sort"

	"tollbook/api"
)

// Entry is a value that holds for a span.
type Entry[V any] struct {
	Span  api.Span
	Value V
}

// Line is a line of time: at each day a value, or none. One that no call made
// answers like one with no entries.
type Line[V any] struct {
	// entries are by rising From; no two of them meet.
	entries []Entry[V]
}

func New[V any](entries []Entry[V]) (*Line[V], api.Fault) {
	if len(entries) > api.MaxEntries {
		return nil, api.Fault{Err: api.ErrLong, At: -1}
	}
	for i, e := range entries {
		if err := Check(e.Span); err != api.OK {
			return nil, api.Fault{Err: err, At: i}
		}
	}
	// The places of those that have been looked at, by rising From: not the
	// entries themselves, which may be great, for these move with each new one.
	var places []int
	for i, e := range entries {
		at := sort.Search(len(places), func(n int) bool { return entries[places[n]].Span.To > e.Span.From })
		if at < len(places) && entries[places[at]].Span.From < e.Span.To {
			return nil, api.Fault{Err: api.ErrOverlap, At: i}
		}
		places = slices.Insert(places, at, i)
	}
	l := &Line[V]{}
	for _, place := range places {
		l.entries = append(l.entries, entries[place])
	}
	return l, api.Fault{}
}

func (l *Line[V]) At(d api.Date) (V, bool) {
	list := l.list()
	at := sort.Search(len(list), func(n int) bool { return list[n].Span.To > d })
	if at == len(list) || list[at].Span.From > d {
		var none V
		return none, false
	}
	return list[at].Value, true
}

func (l *Line[V]) All() iter.Seq2[api.Span, V] {
	// As with a set's spans: what is there is taken now.
	list := l.list()
	return func(yield func(api.Span, V) bool) {
		for _, e := range list {
			if !yield(e.Span, e.Value) {
				return
			}
		}
	}
}

func (l *Line[V]) Len() int {
	return len(l.list())
}

func (l *Line[V]) list() []Entry[V] {
	if l == nil {
		return nil
	}
	return l.entries
}
