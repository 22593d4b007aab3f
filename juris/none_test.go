package juris_test

import (
	"slices"
	"testing"

	"tollbook/api"
	"tollbook/juris"
)

// P15.2, P15.4, R4: trees that are nil, or that New did not make; the number may
// be any.
func TestNoTree(t *testing.T) {
	for _, x := range []*juris.Tree{nil, {}, new(juris.Tree)} {
		if x.Len() != 0 || len(x.Order()) != 0 {
			t.Error("places of no tree")
		}
		for _, i := range append(wrongPlaces(), 0, 1) {
			parent, one := x.Parent(i)
			deep, two := x.Deep(i)
			under, three := x.Under(i)
			if parent != 0 || deep != 0 || len(under) != 0 || one != api.ErrNil || two != api.ErrNil || three != api.ErrNil {
				t.Errorf("%d: %d, %d, %v; errors %d, %d, %d", i, parent, deep, under, one, two, three)
			}
			if x.Path(i) == nil || len(slices.Collect(x.Path(i))) != 0 {
				t.Errorf("Path(%d)", i)
			}
			for _, k := range append(wrongPlaces(), 0, 1) {
				if place, is := x.Meet(i, k); place != 0 || is || x.Within(i, k) {
					t.Errorf("%d, %d", i, k)
				}
			}
		}
	}
}

// R2, R4: what New answers beside a Fault is a tree that is not there.
func TestRefused(t *testing.T) {
	for _, parents := range [][]int{{0}, {-2}, make([]int, 4097)} {
		x, _ := juris.New(parents)
		if _, err := x.Parent(0); x != nil || err != api.ErrNil {
			t.Errorf("%v, error %d", x, err)
		}
	}
}

// R4: a path of no tree stays one through nothing, whatever is put where that one
// stands.
func TestPathOfNoTreeThen(t *testing.T) {
	empty := &juris.Tree{}
	path := empty.Path(0)
	*empty = *tree(t, -1, 0)
	if got := slices.Collect(path); len(got) != 0 {
		t.Errorf("%v", got)
	}
	if got := slices.Collect(empty.Path(1)); !slices.Equal(got, []int{1, 0}) {
		t.Errorf("%v", got)
	}
}
