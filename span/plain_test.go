package span_test

// What the tests hold the package against: days in a list of bools, each asked
// by itself, with nothing of the package in it.

import (
	"slices"
	"testing"

	"tollbook/api"
	"tollbook/span"
)

const (
	last   = api.MaxDate
	maxInt = 1<<63 - 1
	minInt = -1 << 63
)

func from(a, b api.Date) api.Span {
	return api.Span{From: a, To: b}
}

// wrongSpans may not be.
func wrongSpans() []api.Span {
	return []api.Span{
		{}, from(3, 3), from(5, 3), from(1, 0), from(last, last), from(last+1, last+1), from(last+1, last), from(last+1, 0),
		from(-1, 2), from(-1, 0), from(-1, last+1), from(-5, -3), from(-3, -5), from(-3, -3), from(minInt, 1), from(minInt, maxInt), from(minInt, minInt), from(minInt, minInt+1),
		from(0, last+2), from(last, last+2), from(last+1, last+2), from(last+2, last+3), from(0, maxInt), from(maxInt, maxInt), from(maxInt-1, maxInt), from(maxInt, minInt), from(maxInt, 0), from(0, minInt),
		from(1<<32, 1<<32+1), from(0, 1<<32+1), from(-1<<32, 1), from(5, -1<<32+9),
	}
}

// days are the first ones from some day on: whether each is in a set.
type days struct {
	first api.Date
	in    []bool
}

// subset has the bits of a number as days.
func subset(first api.Date, width, bits int) days {
	d := days{first, make([]bool, width)}
	for i := range width {
		d.in[i] = bits>>i&1 == 1
	}
	return d
}

// spans are told day by day: a span begins where a day is in and the one ahead
// is not.
func (d days) spans() []api.Span {
	var list []api.Span
	for i, in := range d.in {
		day := d.first + api.Date(i)
		switch {
		case in && i > 0 && d.in[i-1]:
			list[len(list)-1].To++
		case in:
			list = append(list, from(day, day+1))
		}
	}
	return list
}

func (d days) count() int {
	n := 0
	for _, in := range d.in {
		if in {
			n++
		}
	}
	return n
}

// with asks each day of two sets that have the same first one.
func (d days) with(o days, ask func(a, b bool) bool) days {
	answer := days{d.first, make([]bool, len(d.in))}
	for i := range d.in {
		answer.in[i] = ask(d.in[i], o.in[i])
	}
	return answer
}

func (d days) or(o days) days    { return d.with(o, func(a, b bool) bool { return a || b }) }
func (d days) and(o days) days   { return d.with(o, func(a, b bool) bool { return a && b }) }
func (d days) minus(o days) days { return d.with(o, func(a, b bool) bool { return a && !b }) }

// dice rolls the same numbers in each run.
type dice uint64

func (d *dice) below(n int) int {
	*d ^= *d << 13
	*d ^= *d >> 7
	*d ^= *d << 17
	return int(uint64(*d) % uint64(n))
}

func (d *dice) mix(list []api.Span) []api.Span {
	list = slices.Clone(list)
	for i := range list {
		j := d.below(i + 1)
		list[i], list[j] = list[j], list[i]
	}
	return list
}

// days in runs of lengths that differ from set to set.
func (d *dice) days(first api.Date, width, run int) days {
	s := days{first, make([]bool, width)}
	in := d.below(2) == 0
	for i := range s.in {
		if d.below(run) == 0 {
			in = !in
		}
		s.in[i] = in
	}
	return s
}

// apart are n spans, each of length days, gap days between them.
func apart(first api.Date, n int, length, gap api.Date) []api.Span {
	var list []api.Span
	for i := range n {
		at := first + api.Date(i)*(length+gap)
		list = append(list, from(at, at+length))
	}
	return list
}

func of(t *testing.T, list ...api.Span) *span.Set {
	t.Helper()
	s, e := span.Of(list)
	if s == nil || e != api.OK {
		t.Fatalf("Of %d spans: error %d", len(list), e)
	}
	return s
}

func want(t *testing.T, what string, s *span.Set, e api.Errno, list []api.Span) {
	t.Helper()
	if s == nil || e != api.OK {
		t.Fatalf("%s: %v, error %d", what, s, e)
	}
	got := slices.Collect(s.Spans())
	if !slices.Equal(got, list) {
		t.Fatalf("%s: %s, wanted %s", what, few(got), few(list))
	}
}

// few cuts long lists for what is told.
func few(list []api.Span) string {
	text := ""
	for i, s := range list {
		if i == 20 {
			return text + " .."
		}
		text += " " + told(s)
	}
	return text
}

// The plain ways are themselves held against what anyone sees.
func TestPlain(t *testing.T) {
	d := subset(10, 8, 0b10110011)
	if got := d.spans(); !slices.Equal(got, []api.Span{from(10, 12), from(14, 16), from(17, 18)}) || d.count() != 5 {
		t.Errorf("%v, %d days", got, d.count())
	}
	o := subset(10, 8, 0b00010110)
	for _, c := range []struct {
		got  days
		bits int
	}{{d.or(o), 0b10110111}, {d.and(o), 0b00010010}, {d.minus(o), 0b10100001}, {o.minus(d), 0b00000100}} {
		if !slices.Equal(c.got.in, subset(10, 8, c.bits).in) {
			t.Errorf("%v is not %b", c.got.in, c.bits)
		}
	}
	if got := apart(5, 3, 2, 1); !slices.Equal(got, []api.Span{from(5, 7), from(8, 10), from(11, 13)}) {
		t.Errorf("%v", got)
	}
	roll := dice(7)
	list := apart(0, 50, 1, 1)
	mixed := roll.mix(list)
	if slices.Equal(mixed, list) || len(roll.days(0, 1000, 5).spans()) < 50 {
		t.Error("the dice are loaded")
	}
	slices.SortFunc(mixed, func(a, b api.Span) int { return int(a.From - b.From) })
	if !slices.Equal(mixed, list) {
		t.Error("mixing has lost spans")
	}
}
