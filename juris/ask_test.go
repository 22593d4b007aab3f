package juris_test

import (
	"slices"
	"testing"

	"tollbook/api"
)

// P15.2: the chapter's examples.
func TestAsks(t *testing.T) {
	x := tree(t, -1, 0, 0, 1, -1, 3)
	for _, c := range []struct {
		i, parent, deep int
		under           []int
	}{{0, -1, 0, []int{0, 1, 2, 3, 5}}, {1, 0, 1, []int{1, 3, 5}}, {2, 0, 1, []int{2}}, {3, 1, 2, []int{3, 5}}, {4, -1, 0, []int{4}}, {5, 3, 3, []int{5}}} {
		parent, one := x.Parent(c.i)
		deep, two := x.Deep(c.i)
		under, three := x.Under(c.i)
		if parent != c.parent || deep != c.deep || !slices.Equal(under, c.under) || one != api.OK || two != api.OK || three != api.OK {
			t.Errorf("%d: %d, %d, %v", c.i, parent, deep, under)
		}
	}
	if !x.Within(5, 1) || x.Within(1, 5) || !x.Within(2, 2) || x.Within(6, 6) || x.Within(5, 4) || x.Within(5, 2) {
		t.Error("Within")
	}
	for _, c := range []struct {
		i, k, place int
		is          bool
	}{{5, 2, 0, true}, {5, 3, 3, true}, {5, 4, 0, false}, {0, 0, 0, true}, {3, 5, 3, true}, {4, 4, 4, true}, {6, 6, 0, false}, {3, 9, 0, false}} {
		if place, is := x.Meet(c.i, c.k); place != c.place || is != c.is {
			t.Errorf("Meet(%d, %d): %d, %v", c.i, c.k, place, is)
		}
	}
}

// P15.2: numbers that are no places, of each call, alone and beside a place.
func TestNoPlaces(t *testing.T) {
	for _, parents := range [][]int{{-1}, {-1, 0, 0, 1, -1, 3}, chain(4096, 1), chain(4096, -1)} {
		x := tree(t, parents...)
		for _, i := range append(wrongPlaces(), len(parents), len(parents)+1) {
			wantPlace(t, x, forest{parents: parents}, i)
			wantUnder(t, x, forest{parents: parents}, i)
			for _, k := range append(wrongPlaces(), 0, len(parents)-1, len(parents)) {
				for _, pair := range [][2]int{{i, k}, {k, i}} {
					if x.Within(pair[0], pair[1]) {
						t.Errorf("Within(%d, %d)", pair[0], pair[1])
					}
					if place, is := x.Meet(pair[0], pair[1]); place != 0 || is {
						t.Errorf("Meet(%d, %d): %d, %v", pair[0], pair[1], place, is)
					}
				}
			}
		}
	}
}

// P15.2: a tree of one place, and one of none, in which no number is a place.
func TestOneAndNone(t *testing.T) {
	wantForest(t, tree(t, -1), forest{[]int{-1}, [][]int{{0}}})
	for _, parents := range [][]int{nil, {}, chain(3, 1)[:0]} {
		x := tree(t, parents...)
		wantForest(t, x, forest{})
		for _, i := range append(wrongPlaces(), 0, 1) {
			wantPlace(t, x, forest{}, i)
			wantUnder(t, x, forest{}, i)
		}
	}
}

// P15.2, P15.3: chains as long as may be, with the root first and last.
func TestLongChains(t *testing.T) {
	const n = 4096
	for _, step := range []int{1, -1} {
		x := tree(t, chain(n, step)...)
		root, end := 0, n-1
		if step < 0 {
			root, end = n-1, 0
		}
		whole := make([]int, n)
		for i := range whole {
			whole[i] = i
		}
		if under, err := x.Under(root); !slices.Equal(under, whole) || err != api.OK {
			t.Errorf("under the root: %s, %d", few(under), err)
		}
		if under, err := x.Under(end); !slices.Equal(under, []int{end}) || err != api.OK {
			t.Errorf("under the end: %s, %d", few(under), err)
		}
		for i := range n {
			if deep, err := x.Deep(i); deep != (i-root)*step || err != api.OK {
				t.Fatalf("Deep(%d): %d, %d", i, deep, err)
			}
			if parent, err := x.Parent(i); parent != chain(n, step)[i] || err != api.OK {
				t.Fatalf("Parent(%d): %d, %d", i, parent, err)
			}
			k := (i*7 + 5) % n
			if x.Within(i, k) != ((i-k)*step >= 0) || !x.Within(i, root) || !x.Within(end, i) || !x.Within(i, i) {
				t.Fatalf("Within(%d, %d)", i, k)
			}
			nearer := i
			if (i-k)*step > 0 {
				nearer = k
			}
			if place, is := x.Meet(i, k); place != nearer || !is {
				t.Fatalf("Meet(%d, %d): %d, %v", i, k, place, is)
			}
		}
		if step > 0 {
			slices.Reverse(whole)
		}
		if path := slices.Collect(x.Path(end)); !slices.Equal(path, whole) {
			t.Errorf("the path from the end: %s", few(path))
		}
		slices.Reverse(whole)
		wantOrder(t, x, chain(n, step), whole)
	}
}

// P15.2, P15.3: several roots, and many trees beside each other; all places and
// pairs.
func TestManyTrees(t *testing.T) {
	roll := dice(4)
	for range 60 {
		n := 1 + roll.below(60)
		f := roll.grow(n, 1+roll.below(n), 1+roll.below(n))
		wantForest(t, tree(t, f.parents...), f)
	}
	wantForest(t, tree(t, slices.Repeat([]int{-1}, 70)...), plainForest(slices.Repeat([]int{-1}, 70)))
	wantForest(t, tree(t, chain(70, 8)...), plainForest(chain(70, 8)))
	wantForest(t, tree(t, chain(70, -8)...), plainForest(chain(70, -8)))
}

// P15.2, P15.3: just as many places as may be, in several shapes; every place, and
// some of the pairs.
func TestGreatTrees(t *testing.T) {
	const n = 4096
	roll := dice(6)
	for _, f := range []forest{roll.grow(n, 1, n), roll.grow(n, 40, n), roll.grow(n, 2, 3), roll.grow(n, 10, 40), roll.grow(n, n, 1)} {
		x := tree(t, f.parents...)
		if x.Len() != n {
			t.Fatalf("%d places", x.Len())
		}
		for i := range n {
			wantPlace(t, x, f, i)
		}
		for range 60 {
			i, k := roll.below(n), roll.below(n)
			wantUnder(t, x, f, i)
			wantPair(t, x, f, i, k)
			over := f.paths[i][roll.below(len(f.paths[i]))]
			wantPair(t, x, f, i, over)
			wantPair(t, x, f, over, i)
		}
		wantOrder(t, x, f.parents, f.order())
	}
}
