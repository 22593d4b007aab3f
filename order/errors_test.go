package order_test

import (
	"slices"
	"testing"

	"tollbook/api"
)

// wantError asks all three calls; from is of Needs.
func wantError(t *testing.T, n int, all []api.Arc, from []int, err api.Errno) {
	t.Helper()
	wantSort(t, n, all, nil, err)
	wantRing(t, n, all, nil, err)
	wantNeeds(t, n, all, from, nil, err)
}

// graphs are of four nodes, with a ring and without.
func graphs() [][]api.Arc {
	return [][]api.Arc{nil, {}, arcs(0, 1), arcs(0, 2, 2, 3, 1, 3), arcs(3, 3), ring(0, 1, 2, 3)}
}

// P17.1: ErrArg of how many nodes there are, ahead of all else.
func TestWrongCounts(t *testing.T) {
	long := make([]api.Arc, mostArcs+1)
	for _, n := range wrongCounts() {
		for _, all := range append(graphs(), long, append(slices.Clone(long), api.Arc{From: -1}), arcs(-1, 0), arcs(0, 1, 7000, 7000), arcs(n, n), arcs(0, n-1)) {
			for _, from := range [][]int{nil, {0}, {-1}, {0, 5000}, {n}} {
				wantError(t, n, all, from, api.ErrArg)
			}
		}
	}
}

// P17.1: from 0 nodes to 4096 there may be.
func TestRightCounts(t *testing.T) {
	for _, n := range []int{0, 1, 2, 3, 63, 64, 65, 4095, 4096} {
		wantSort(t, n, nil, numbers(0, n), api.OK)
		wantSort(t, n, []api.Arc{}, numbers(0, n), api.OK)
		wantRing(t, n, nil, nil, api.OK)
		wantNeeds(t, n, nil, nil, nil, api.OK)
		wantNeeds(t, n, nil, numbers(0, n), nil, api.OK)
		if n > 0 {
			wantSort(t, n, arcs(n-1, n-1), nil, api.ErrRing)
			wantRing(t, n, arcs(n-1, n-1), []int{n - 1}, api.OK)
			wantNeeds(t, n, arcs(n-1, n-1), []int{n - 1}, []int{n - 1}, api.OK)
		}
		wantError(t, n, arcs(0, n), nil, api.ErrArc)
		wantNeeds(t, n, nil, []int{n}, nil, api.ErrArg)
	}
	wantError(t, 0, arcs(0, 0), nil, api.ErrArc)
}

// P17.1: ErrLong of more arcs than may be, ahead of what is wrong with them, and
// of what from names.
func TestHowManyArcs(t *testing.T) {
	right := slices.Repeat(arcs(2, 1), mostArcs)
	wantSort(t, 3, right, []int{0, 1, 2}, api.OK)
	wantRing(t, 3, right, nil, api.OK)
	wantNeeds(t, 3, right, []int{2}, []int{1}, api.OK)
	wantSort(t, 3, right[1:], []int{0, 1, 2}, api.OK)
	for _, last := range []api.Arc{{From: 2, To: 1}, {From: 1, To: 2}, {From: 0, To: 0}, {From: -1}, {To: 3}} {
		for _, from := range [][]int{nil, {2}, {-1}, {3}} {
			wantError(t, 3, append(slices.Clone(right), last), from, api.ErrLong)
			wantError(t, 3, append([]api.Arc{last}, right...), from, api.ErrLong)
		}
	}
	wantError(t, 0, make([]api.Arc, mostArcs+1), nil, api.ErrLong)
	wantError(t, mostNodes, make([]api.Arc, 1<<20), []int{mostNodes}, api.ErrLong)
	wantError(t, 3, append(slices.Clone(right[1:]), api.Arc{From: 3}), nil, api.ErrArc)
	// Of nodes that need themselves just as many arcs may be.
	own := make([]api.Arc, mostArcs)
	wantSort(t, 1, own, nil, api.ErrRing)
	wantRing(t, 1, own, []int{0}, api.OK)
	wantNeeds(t, 1, own, []int{0}, []int{0}, api.OK)
}

// P17.1: ErrArc of an end that is no node, whichever arc's, ahead of a ring and of
// what from names.
func TestWrongArcs(t *testing.T) {
	for _, right := range graphs() {
		for _, wrong := range append(wrongNodes(), 4, 5) {
			for at := range len(right) + 1 {
				for _, one := range []api.Arc{{From: wrong, To: 1}, {From: 1, To: wrong}, {From: wrong, To: wrong}} {
					all := slices.Insert(slices.Clone(right), at, one)
					for _, from := range [][]int{nil, {0}, {-1}, {4}, {wrong}} {
						wantError(t, 4, all, from, api.ErrArc)
					}
				}
			}
		}
	}
	all := make([]api.Arc, mostArcs)
	for _, at := range []int{0, 1, 4095, 4096, mostArcs / 2, mostArcs - 2, mostArcs - 1} {
		all[at] = api.Arc{From: mostNodes}
		wantError(t, mostNodes, all, nil, api.ErrArc)
		all[at] = api.Arc{To: -1}
		wantError(t, mostNodes, all, []int{-1}, api.ErrArc)
		all[at] = api.Arc{}
	}
	wantRing(t, mostNodes, all, []int{0}, api.OK)
}

// P17.1: ErrArg of one of from that is no node, wherever it stands; a ring is no
// error of Needs, nor of Ring.
func TestWrongFrom(t *testing.T) {
	for _, all := range graphs() {
		for _, wrong := range append(wrongNodes(), 4, 5) {
			for _, right := range [][]int{nil, {0}, {3, 3}, {0, 1, 2, 3, 0}} {
				for at := range len(right) + 1 {
					wantNeeds(t, 4, all, slices.Insert(slices.Clone(right), at, wrong), nil, api.ErrArg)
				}
			}
		}
	}
	from := make([]int, 1<<20)
	wantNeeds(t, 4, ring(0, 3), from, []int{0, 3}, api.OK)
	from[len(from)-1] = 4
	wantNeeds(t, 4, ring(0, 3), from, nil, api.ErrArg)
	wantNeeds(t, 0, nil, []int{0}, nil, api.ErrArg)
	wantNeeds(t, mostNodes, nil, []int{mostNodes - 1}, nil, api.OK)
	wantNeeds(t, mostNodes, nil, []int{mostNodes}, nil, api.ErrArg)
}

// P17.1: ErrRing of Sort, of rings wherever they lie; Ring tells them, and Needs
// goes along them.
func TestRingIsAnError(t *testing.T) {
	for _, all := range [][]api.Arc{arcs(0, 0), arcs(5, 5), ring(0, 1), ring(4, 5), ring(0, 1, 2, 3, 4, 5), ring(5, 3, 1), append(ring(2, 3), row(0, 1, 2)...), append(ring(2, 3), row(3, 4, 5)...), slices.Repeat(arcs(4, 4), 3)} {
		wantSort(t, 6, all, nil, api.ErrRing)
		wantRing(t, 6, all, slowRing(6, all), api.OK)
		wantGraph(t, 6, all, []int{5, 0, 5})
	}
}
