package order_test

import (
	"slices"
	"testing"

	"tollbook/api"
)

// P17.2: the chapter's examples, and where several could come next.
func TestSort(t *testing.T) {
	for _, c := range []struct {
		n    int
		all  []api.Arc
		want []int
	}{
		{0, nil, nil},
		{1, nil, []int{0}},
		{3, nil, []int{0, 1, 2}},
		{4, arcs(0, 2, 2, 3, 1, 3), []int{3, 1, 2, 0}},
		{2, arcs(0, 1, 0, 1), []int{1, 0}},
		{3, arcs(0, 2), []int{1, 2, 0}},
		{3, arcs(0, 1), []int{1, 0, 2}},
		{3, arcs(1, 0, 2, 0, 2, 1), []int{0, 1, 2}},
		{3, arcs(0, 1, 0, 2), []int{1, 2, 0}},
		// What needs most comes at once, when it may; and what it was in the way of.
		{5, arcs(0, 3, 1, 0, 2, 4), []int{3, 0, 1, 4, 2}},
		{5, arcs(0, 4, 1, 4, 2, 4, 3, 4), []int{4, 0, 1, 2, 3}},
		{6, arcs(0, 1, 0, 5, 2, 4, 1, 3), []int{3, 1, 4, 2, 5, 0}},
		// Not the reverse of the least order from the other end.
		{4, arcs(0, 3), []int{1, 2, 3, 0}},
		{5, arcs(1, 4, 0, 2), []int{2, 0, 3, 4, 1}},
		// One of the same arcs would not do, were only one of them counted off.
		{4, arcs(0, 3, 0, 3, 0, 3, 1, 3, 0, 2), []int{2, 3, 0, 1}},
	} {
		wantSort(t, c.n, c.all, c.want, api.OK)
	}
	wantSort(t, 2, arcs(0, 1, 1, 0), nil, api.ErrRing)
}

// everyGraph goes through all graphs of n nodes.
func everyGraph(n int, look func(all []api.Arc)) {
	for mask := range 1 << (n * n) {
		var all []api.Arc
		for i := range n * n {
			if mask>>i&1 == 1 {
				all = append(all, api.Arc{From: i / n, To: i % n})
			}
		}
		look(all)
	}
}

// P17.2 to P17.4: all graphs of up to four nodes.
func TestAllSmallGraphs(t *testing.T) {
	roll := dice(3)
	for n := range 5 {
		everyGraph(n, func(all []api.Arc) {
			var from []int
			for range roll.below(4) * min(n, 1) {
				from = append(from, roll.below(n))
			}
			wantGraph(t, n, all, from)
			wantRing(t, n, all, slowRing(n, all), api.OK)
		})
	}
}

// P17.2 to P17.4: mixed graphs, of few arcs and of many, with rings and without.
func TestMixedGraphs(t *testing.T) {
	roll := dice(19)
	sortable, ringed := 0, 0
	for range 3000 {
		n := 2 + roll.below(24)
		all := roll.free(n, roll.below(3*n))
		if roll.below(2) == 0 {
			all = append(all, roll.graph(n, roll.below(1+n/2))...)
		}
		if _, err := plainSort(n, all); err == api.OK {
			sortable++
		} else {
			ringed++
		}
		wantGraph(t, n, roll.shuffled(all), []int{roll.below(n), roll.below(n), roll.below(n)})
	}
	if sortable < 500 || ringed < 500 {
		t.Errorf("%d, %d", sortable, ringed)
	}
}

// P17.2, P17.3, P17.4: chains of as many nodes as may be, both ways, and of mixed
// ones; and with a last arc that closes them.
func TestLongChains(t *testing.T) {
	roll := dice(23)
	forth := numbers(0, mostNodes)
	for _, list := range [][]int{forth, falling(forth), roll.mixed(mostNodes), roll.mixed(mostNodes)} {
		last := list[mostNodes-1]
		for _, all := range [][]api.Arc{row(list...), fallingArcs(row(list...)), roll.shuffled(row(list...)), slices.Repeat(row(list...), 16)} {
			wantSort(t, mostNodes, all, falling(list), api.OK)
			wantRing(t, mostNodes, all, nil, api.OK)
			wantNeeds(t, mostNodes, all, list[:1], without(forth, list[0]), api.OK)
			wantNeeds(t, mostNodes, all, []int{last}, nil, api.OK)
			wantNeeds(t, mostNodes, all, []int{last, list[mostNodes-2]}, []int{last}, api.OK)
		}
		for _, at := range []int{0, 1, 2, mostNodes / 2, mostNodes - 2, mostNodes - 1} {
			all := roll.shuffled(append(row(list...), api.Arc{From: last, To: list[at]}))
			wantSort(t, mostNodes, all, nil, api.ErrRing)
			wantRing(t, mostNodes, all, begun(list[at:]), api.OK)
			wantNeeds(t, mostNodes, all, []int{last}, risen(list[at:]), api.OK)
			wantNeeds(t, mostNodes, all, list[:1], risen(list[min(at, 1):]), api.OK)
		}
	}
}

func fallingArcs(all []api.Arc) []api.Arc {
	all = slices.Clone(all)
	slices.Reverse(all)
	return all
}

func without(list []int, node int) []int {
	return slices.DeleteFunc(slices.Clone(list), func(one int) bool { return one == node })
}

func risen(list []int) []int {
	return slices.Sorted(slices.Values(list))
}

// begun is a ring told from its least node on.
func begun(list []int) []int {
	at := slices.Index(list, slices.Min(list))
	return append(slices.Clone(list[at:]), list[:at]...)
}

// P17.2: as many nodes as may be that could all come next at one time, and that
// can only one behind the other.
func TestManyCouldComeNext(t *testing.T) {
	roll := dice(29)
	const half = mostNodes / 2
	rising := numbers(0, mostNodes)
	var up, down, pairs []api.Arc
	var told []int
	for i := range half {
		pairs = append(pairs, api.Arc{From: half - 1 - i, To: half + i})
		told = append(told, half+i, half-1-i)
	}
	for i := range mostNodes - 1 {
		up = append(up, api.Arc{From: i, To: mostNodes - 1})
		down = append(down, api.Arc{From: i + 1, To: 0})
	}
	for range 3 {
		wantSort(t, mostNodes, roll.shuffled(pairs), told, api.OK)
		wantSort(t, mostNodes, roll.shuffled(up), append([]int{mostNodes - 1}, rising[:mostNodes-1]...), api.OK)
		wantSort(t, mostNodes, roll.shuffled(down), rising, api.OK)
	}
	// The first one needs all others, and all others the last one.
	both := up
	for i := 1; i < mostNodes-1; i++ {
		both = append(both, api.Arc{From: 0, To: i})
	}
	wantSort(t, mostNodes, roll.shuffled(both), slices.Concat([]int{mostNodes - 1}, rising[1:mostNodes-1], []int{0}), api.OK)
}

// P17.2: great graphs: each once, each behind all that it needs, and what stands
// right ahead of a lesser one was in its way.
func TestSortOfGreatGraphs(t *testing.T) {
	roll := dice(31)
	for _, many := range []int{0, 10, 1000, 4000, 8000, 30000, mostArcs} {
		for range 4 {
			n := 2 + roll.below(mostNodes-1)
			all := roll.free(n, many)
			list, err := sort(t, n, all)
			if err != api.OK || len(list) != n {
				t.Fatalf("%d of %d nodes, error %d", len(list), n, err)
			}
			at := slices.Repeat([]int{-1}, n)
			for i, node := range list {
				if at[node] >= 0 {
					t.Fatalf("%d is told twice", node)
				}
				at[node] = i
			}
			// A node may come as soon as the last of what it needs has; all nodes that
			// come from then on up to it are less.
			free := make([]int, n)
			for _, a := range all {
				if at[a.To] >= at[a.From] {
					t.Fatalf("%d comes ahead of %d", a.From, a.To)
				}
				free[a.From] = max(free[a.From], at[a.To]+1)
			}
			for node := range n {
				for i := free[node]; i < at[node]; i++ {
					if list[i] > node {
						t.Fatalf("%d comes ahead of %d, which could have come", list[i], node)
					}
				}
			}
		}
	}
}
