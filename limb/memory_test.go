package limb_test

import (
	"slices"
	"testing"

	"tollbook/api"
	"tollbook/limb"
)

// listCall is a call that takes lists: what it answers as lists, and as all else.
type listCall struct {
	name string
	run  func(a, b []uint64) ([]uint64, [3]uint64)
}

// listCalls has, beside ordinary arguments, those at which an answer is as an
// argument was, where handing out the argument itself would be near at hand.
func listCalls() []listCall {
	calls := []listCall{
		{"Trim", func(a, _ []uint64) ([]uint64, [3]uint64) { return limb.Trim(a), [3]uint64{} }},
		{"Compare", func(a, b []uint64) ([]uint64, [3]uint64) {
			return nil, [3]uint64{uint64(limb.Compare(a, b))}
		}},
		{"Bits", func(a, _ []uint64) ([]uint64, [3]uint64) { return nil, [3]uint64{uint64(limb.Bits(a))} }},
		{"Plus", func(a, b []uint64) ([]uint64, [3]uint64) { return limb.Plus(a, b), [3]uint64{} }},
		{"Less", func(a, b []uint64) ([]uint64, [3]uint64) {
			l, e := limb.Less(a, b)
			return l, [3]uint64{uint64(e)}
		}},
	}
	for _, by := range []uint64{0, 1, 2, m} {
		calls = append(calls,
			listCall{"Times", func(a, _ []uint64) ([]uint64, [3]uint64) { return limb.Times(a, by, 0), [3]uint64{} }},
			listCall{"Times with more", func(a, _ []uint64) ([]uint64, [3]uint64) { return limb.Times(a, by, m), [3]uint64{} }},
			listCall{"Over", func(a, _ []uint64) ([]uint64, [3]uint64) {
				l, rest, e := limb.Over(a, by)
				return l, [3]uint64{rest, uint64(e)}
			}})
	}
	for _, n := range []int{-1, 0, 1, 63, 64, 65, 64 * api.MaxLimbs} {
		calls = append(calls,
			listCall{"Left", func(a, _ []uint64) ([]uint64, [3]uint64) {
				l, e := limb.Left(a, n)
				return l, [3]uint64{uint64(e)}
			}},
			listCall{"Right", func(a, _ []uint64) ([]uint64, [3]uint64) {
				l, e := limb.Right(a, n)
				return l, [3]uint64{uint64(e)}
			}})
	}
	return calls
}

const mark = 0xdeadbeefdeadbeef

// guarded is a list with marked room ahead of it and behind its end, within its capacity.
type guarded struct {
	room, was, list []uint64
}

func guard(l []uint64) guarded {
	room := append(repeated(mark, 3), l...)
	room = append(room, repeated(mark, 5)...)
	return guarded{room, slices.Clone(room), room[3 : 3+len(l)]}
}

func (g guarded) changed() bool {
	return !slices.Equal(g.room, g.was)
}

// scribble writes over a list, and over the room behind its end.
func scribble(l []uint64) {
	l = l[:cap(l)]
	for i := range l {
		l[i] ^= mark
	}
}

// R3 and R6, for one call at one pair of lists.
func wantOwnMemory(t *testing.T, call listCall, x, y []uint64) {
	t.Helper()
	a, b := guard(x), guard(y)
	first, others := call.run(a.list, b.list)
	if a.changed() || b.changed() {
		t.Fatalf("%s(%x, %x) changes an argument, or the room about it", call.name, short(x), short(y))
	}
	told := slices.Clone(first)

	second, _ := call.run(a.list, b.list)
	scribble(second)
	if a.changed() || b.changed() {
		t.Fatalf("%s(%x, %x) answers an argument's memory", call.name, short(x), short(y))
	}
	if !slices.Equal(first, told) {
		t.Fatalf("%s(%x, %x) answers the same memory twice", call.name, short(x), short(y))
	}

	third, again := call.run(a.list, b.list)
	if !slices.Equal(third, told) || again != others {
		t.Fatalf("%s(%x, %x) answers otherwise the next time", call.name, short(x), short(y))
	}

	scribble(a.list)
	scribble(b.list)
	if !slices.Equal(first, told) {
		t.Fatalf("%s(%x, %x) hands out what it keeps of an argument", call.name, short(x), short(y))
	}
}

func TestOwnMemory(t *testing.T) {
	lists := edgeLists()
	for _, call := range listCalls() {
		for _, a := range lists {
			for _, b := range lists {
				wantOwnMemory(t, call, a, b)
			}
		}
		for _, a := range wideLists() {
			wantOwnMemory(t, call, a, []uint64{1})
			wantOwnMemory(t, call, []uint64{1}, a)
		}
	}
}

// One list may be handed in twice, and be a piece of the other.
func TestSharedArguments(t *testing.T) {
	l := []uint64{m, m, 5, 0}
	was := slices.Clone(l)
	if got := limb.Plus(l, l); !slices.Equal(got, []uint64{m - 1, m, 11}) {
		t.Errorf("%x", got)
	}
	if got := limb.Plus(l, l[1:]); !slices.Equal(got, []uint64{m - 1, 5, 6}) {
		t.Errorf("%x", got)
	}
	if got, e := limb.Less(l, l); len(got) != 0 || e != api.OK {
		t.Errorf("%x, %d", got, e)
	}
	if limb.Compare(l, l) != 0 || limb.Compare(l, l[:2]) != 1 {
		t.Error("Compare")
	}
	if !slices.Equal(l, was) {
		t.Errorf("changed: %x", l)
	}
}

// Nil and empty lists are one, as are noughts.
func TestNilAndEmpty(t *testing.T) {
	for _, call := range listCalls() {
		for _, other := range edgeLists() {
			ofNil, nilRest := call.run(nil, other)
			toNil, toRest := call.run(other, nil)
			for _, empty := range [][]uint64{{}, make([]uint64, 0, 9), {0}, {0, 0, 0}} {
				if l, rest := call.run(empty, other); !slices.Equal(l, ofNil) || rest != nilRest {
					t.Errorf("%s(%x, %x) is not as with nil", call.name, empty, other)
				}
				if l, rest := call.run(other, empty); !slices.Equal(l, toNil) || rest != toRest {
					t.Errorf("%s(%x, %x) is not as with nil", call.name, other, empty)
				}
			}
		}
	}
}
