package juris_test

import (
	"slices"
	"testing"

	"tollbook/api"
	"tollbook/juris"
)

// someTrees are of all kinds: of one place, of roots alone, chains, wide ones.
func someTrees(t *testing.T) []*juris.Tree {
	t.Helper()
	roll := dice(11)
	trees := []*juris.Tree{tree(t), tree(t, -1), tree(t, slices.Repeat([]int{-1}, 20)...), tree(t, chain(40, 1)...), tree(t, chain(40, -1)...), tree(t, chain(40, 7)...)}
	for range 12 {
		n := 1 + roll.below(40)
		trees = append(trees, tree(t, roll.grow(n, 1+roll.below(1+n/4), 1+roll.below(n)).parents...))
	}
	return trees
}

// P15.5: lying within is an order.
func TestWithinFollows(t *testing.T) {
	for _, x := range someTrees(t) {
		n := x.Len()
		for i := range n {
			if !x.Within(i, i) {
				t.Fatalf("%d is not within itself", i)
			}
			for k := range n {
				if i != k && x.Within(i, k) && x.Within(k, i) {
					t.Fatalf("%d and %d are within one another", i, k)
				}
				for m := range n {
					if x.Within(i, k) && x.Within(k, m) && !x.Within(i, m) {
						t.Fatalf("%d is within %d, which is within %d", i, k, m)
					}
				}
			}
		}
	}
}

// P15.5: where two meet is the same the other way round, it is over both, and
// whatever is over both is over it.
func TestMeetFollows(t *testing.T) {
	for _, x := range someTrees(t) {
		n := x.Len()
		for i := range n {
			for k := range n {
				place, is := x.Meet(i, k)
				if back, ok := x.Meet(k, i); back != place || ok != is {
					t.Fatalf("Meet(%d, %d): %d, %v; back %d, %v", i, k, place, is, back, ok)
				}
				if is && (!x.Within(i, place) || !x.Within(k, place)) {
					t.Fatalf("Meet(%d, %d): %d", i, k, place)
				}
				for over := range n {
					if x.Within(i, over) && x.Within(k, over) && !(is && x.Within(place, over)) {
						t.Fatalf("%d and %d are within %d; Meet: %d, %v", i, k, over, place, is)
					}
				}
			}
		}
	}
}

// P15.5: Deep is how far Path goes, less 1; and what else the calls say of one
// another: a path goes from parent to parent, Under has those that lie within.
func TestCallsFollow(t *testing.T) {
	for _, x := range someTrees(t) {
		for i := range x.Len() {
			path := slices.Collect(x.Path(i))
			if deep, err := x.Deep(i); deep != len(path)-1 || err != api.OK {
				t.Fatalf("Deep(%d): %d, of a path of %d", i, deep, len(path))
			}
			next := i
			for _, place := range path {
				if place != next || !x.Within(i, place) {
					t.Fatalf("Path(%d): %v", i, path)
				}
				next, _ = x.Parent(place)
			}
			if next != -1 {
				t.Fatalf("Path(%d) ends below %d", i, next)
			}
			under, err := x.Under(i)
			if err != api.OK || !slices.IsSorted(under) {
				t.Fatalf("Under(%d): %v, %d", i, under, err)
			}
			for k := range x.Len() {
				if slices.Contains(under, k) != x.Within(k, i) {
					t.Fatalf("Under(%d): %v, and %d", i, under, k)
				}
			}
		}
	}
}
