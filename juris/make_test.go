package juris_test

import (
	"math"
	"slices"
	"testing"

	"tollbook/api"
	"tollbook/juris"
)

// P15.1: the chapter's examples.
func TestNew(t *testing.T) {
	for _, parents := range [][]int{nil, {}, {-1}, {-1, 0, 0, 1, -1, 3}, {3, -1, 0, 1}} {
		if x := tree(t, parents...); x.Len() != len(parents) {
			t.Errorf("%v: %d places", parents, x.Len())
		}
	}
	wantFault(t, []int{0}, api.ErrRing, 0)
	wantFault(t, []int{1, 2, 1}, api.ErrRing, 1)
	wantFault(t, []int{-1, 6, 1}, api.ErrParent, 1)
	wantFault(t, []int{-2}, api.ErrParent, 0)
	wantFault(t, []int{1, 7}, api.ErrParent, 1)
	wantFault(t, slices.Repeat([]int{-1}, 4097), api.ErrLong, -1)
}

// everyList goes through all lists of n numbers from least to most; each is a
// new one.
func everyList(n, least, most int, look func(list []int)) {
	if n == 0 {
		look(nil)
		return
	}
	everyList(n-1, least, most, func(list []int) {
		for number := least; number <= most; number++ {
			look(append(slices.Clone(list), number))
		}
	})
}

// P15.1 to P15.3: all lists of a few places, with parents that are just no places
// any more; of those that may be every place, every pair and the order.
func TestAllSmallTrees(t *testing.T) {
	look := func(parents []int) {
		fault := plainFault(parents)
		x, got := juris.New(parents)
		if got != fault || (x == nil) != (fault != api.Fault{}) {
			t.Fatalf("New(%v): %v, wanted %v", parents, got, fault)
		}
		if x != nil {
			wantForest(t, x, plainForest(parents))
		}
	}
	for n := range 6 {
		everyList(n, -2, n, look)
	}
	everyList(6, -1, 5, look)
}

// P15.1: 4096 places are taken, in whatever shape; of one more it is told ahead
// of all else.
func TestHowManyPlaces(t *testing.T) {
	roll := dice(2)
	for _, parents := range [][]int{slices.Repeat([]int{-1}, 4096), chain(4096, 1), chain(4096, -1), chain(4096, 64), roll.grow(4096, 1, 4096).parents, roll.grow(4096, 100, 10).parents} {
		if x := tree(t, parents...); x.Len() != 4096 {
			t.Errorf("%d places", x.Len())
		}
		for _, one := range []int{-1, 0, 4095, 4096, 4097, -2, math.MinInt, math.MaxInt} {
			wantFault(t, append(slices.Clone(parents), one), api.ErrLong, -1)
			wantFault(t, append([]int{one}, parents...), api.ErrLong, -1)
		}
		wantFault(t, slices.Concat(parents, parents), api.ErrLong, -1)
		wantFault(t, append(slices.Clone(parents[1:]), 4096), api.ErrParent, 4095)
		wantFault(t, append(slices.Clone(parents[:4095]), 4095), api.ErrRing, 4095)
	}
	tree(t, slices.Repeat([]int{-1}, 4095)...)
	wantFault(t, make([]int, 4097), api.ErrLong, -1)
	wantFault(t, make([]int, 1<<20), api.ErrLong, -1)
	wantFault(t, slices.Repeat([]int{-2}, 4097), api.ErrLong, -1)
	wantFault(t, slices.Repeat([]int{-2}, 4096), api.ErrParent, 0)
	wantFault(t, make([]int, 4096), api.ErrRing, 0)
}

// P15.1: the first place whose parent is neither -1 nor a place, whatever stands
// behind it, and ahead of any ring.
func TestWrongParents(t *testing.T) {
	for _, right := range [][]int{{}, {-1}, {-1, 0, 1, -1, 3}, {3, -1, 0, 1}, {0}, {1, 0}, {1, 2, 0, 0}, {-1, 1, 3, 2}} {
		places := len(right) + 2
		wrong := append(wrongPlaces()[1:], places, places+1)
		for at := range places - 1 {
			for _, one := range wrong {
				list := slices.Insert(slices.Clone(right), at, one)
				for _, last := range append(wrong, -1, 0, places-1) {
					wantFault(t, append(slices.Clone(list), last), api.ErrParent, at)
				}
			}
		}
	}
	for at := range 4096 {
		list := make([]int, 4096)
		list[at] = 4096
		wantFault(t, list, api.ErrParent, at)
		list[at] = -2
		wantFault(t, list, api.ErrParent, at)
		list = chain(4096, 1)
		list[at], list[4095] = 4096, -2
		wantFault(t, list, api.ErrParent, at)
	}
}

// P15.1: rings of all lengths, at all places of a list; others lead to them, from
// below and from above, and are not on them.
func TestRings(t *testing.T) {
	for _, length := range []int{1, 2, 3, 7, 64, 1000, 2000} {
		for _, ahead := range []int{0, 1, 5, 2000} {
			for _, behind := range []int{0, 1, 5, 96} {
				list := slices.Repeat([]int{-1}, ahead+length+behind)
				for i := range length {
					list[ahead+i] = ahead + (i+1)%length
				}
				wantFault(t, list, api.ErrRing, ahead)
				for i := range length {
					list[ahead+(i+1)%length] = ahead + i
				}
				wantFault(t, list, api.ErrRing, ahead)
				for i := range list {
					if i < ahead || i >= ahead+length {
						list[i] = ahead + length - 1
					}
				}
				wantFault(t, list, api.ErrRing, ahead)
				for i := range ahead {
					list[i] = i + 1
				}
				wantFault(t, list, api.ErrRing, ahead)
			}
		}
	}
	whole := chain(4096, 1)
	whole[0] = 4095
	wantFault(t, whole, api.ErrRing, 0)
	whole = chain(4096, -1)
	whole[4095] = 4095
	wantFault(t, whole, api.ErrRing, 4095)
	whole[4095] = 4094
	wantFault(t, whole, api.ErrRing, 4094)
	whole[4095] = 0
	wantFault(t, whole, api.ErrRing, 0)
}

// P15.1: of several rings the one with the least place on it.
func TestSeveralRings(t *testing.T) {
	for _, c := range []struct {
		list []int
		at   int
	}{
		{[]int{0, 1, 2}, 0}, {[]int{-1, 1, 2}, 1}, {[]int{-1, 2, 1, 4, 3}, 1}, {[]int{3, 2, 1, 0}, 0}, {[]int{4, 4, 3, 2, 4}, 2}, {[]int{4, 3, 3, 4, 1}, 1},
		{[]int{5, 0, 1, 4, 3, 6, 6}, 3}, {[]int{6, 6, 1, 4, 3, 5, 0}, 0}, {[]int{2, 3, 3, 4, 4, 1}, 4}, {[]int{2, 3, 3, 5, 4, 3}, 3},
	} {
		wantFault(t, c.list, api.ErrRing, c.at)
	}
	roll := dice(3)
	for range 300 {
		list, least := roll.rings(1 + roll.below(4096))
		wantFault(t, list, api.ErrRing, least)
	}
	for range 20000 {
		list := make([]int, 1+roll.below(12))
		for i := range list {
			list[i] = roll.below(len(list)+2) - 1
			if roll.below(40) > 0 {
				list[i] = min(list[i], len(list)-1)
			}
		}
		if x, f := juris.New(list); f != plainFault(list) || (x == nil) != (f != api.Fault{}) {
			t.Fatalf("New(%v): %v", list, f)
		}
	}
}

// rings has n places: the first so many of mixed ones are on rings, each of the
// others is a root or leads to any one ahead of it. Beside it, the least place
// that is on a ring.
func (d *dice) rings(n int) ([]int, int) {
	numbers := d.mixed(n)
	on := 1 + d.below(min(n, 1+d.below(n)))
	list := make([]int, n)
	for from := 0; from < on; {
		to := from + 1 + d.below(on-from)
		for at := from; at < to; at++ {
			list[numbers[at]] = numbers[from+(at-from+1)%(to-from)]
		}
		from = to
	}
	for at := on; at < n; at++ {
		list[numbers[at]] = -1
		if d.below(10) > 0 {
			list[numbers[at]] = numbers[d.below(at)]
		}
	}
	return list, slices.Min(numbers[:on])
}
