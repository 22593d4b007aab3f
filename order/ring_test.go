package order_test

import (
	"slices"
	"testing"

	"tollbook/api"
)

// P17.3: the chapter's examples, and graphs with several rings.
func TestRing(t *testing.T) {
	for _, c := range []struct {
		n    int
		all  []api.Arc
		want []int
	}{
		{0, nil, nil},
		{1, nil, nil},
		{3, arcs(0, 1, 1, 2), nil},
		{3, arcs(0, 1, 0, 2, 1, 2), nil},
		{1, arcs(0, 0), []int{0}},
		{3, arcs(0, 1, 2, 2), []int{2}},
		{5, arcs(3, 4, 4, 3, 1, 2, 2, 1), []int{1, 2}},
		{4, arcs(0, 1, 1, 2, 2, 0, 1, 3, 3, 0), []int{0, 1, 2}},
		// No node ahead of the ring, or behind it, is told.
		{4, arcs(0, 1, 1, 2, 2, 3, 3, 1), []int{1, 2, 3}},
		{5, append(ring(2, 3), row(0, 2)...), []int{2, 3}},
		{5, append(ring(2, 3), row(3, 0, 1)...), []int{2, 3}},
		{5, append(ring(4, 2, 3), row(1, 4)...), []int{2, 3, 4}},
		// Nodes between two rings lie on none.
		{7, slices.Concat(ring(3, 4), ring(5, 6), row(3, 0, 5), row(4, 1, 2, 6)), []int{3, 4}},
		{7, slices.Concat(ring(3, 4), ring(5, 6), row(5, 0, 3), row(6, 1, 2, 4)), []int{3, 4}},
		{4, slices.Concat(arcs(1, 1, 3, 3), row(3, 0, 1)), []int{1}},
		// A ring is told from its least node on, wherever its arcs begin.
		{6, ring(5, 3, 4, 1), []int{1, 5, 3, 4}},
		{6, ring(3, 1, 5, 2), []int{1, 5, 2, 3}},
		// The least node's ring goes ahead of shorter ones of others, also where it
		// is one of its own nodes that lies on them.
		{6, append(ring(0, 1, 2, 3, 4), arcs(5, 5)...), []int{0, 1, 2, 3, 4}},
		{6, append(ring(0, 1, 2, 3, 4), ring(2, 3)...), []int{0, 1, 2, 3, 4}},
		{6, append(ring(0, 1, 2), arcs(1, 1, 2, 2)...), []int{0, 1, 2}},
		{6, append(ring(3, 1), ring(2, 2)...), []int{1, 3}},
		// Of one node's rings the shortest, whether it is found first or later.
		{5, arcs(0, 1, 1, 2, 2, 3, 3, 0, 1, 4, 4, 0), []int{0, 1, 4}},
		{5, append(ring(0, 1, 2, 3), ring(0, 4)...), []int{0, 4}},
		{5, append(ring(0, 4), ring(0, 1, 2, 3)...), []int{0, 4}},
		{5, append(ring(0, 1, 2, 3, 4), arcs(0, 0)...), []int{0}},
		{6, append(ring(0, 5, 4), ring(0, 1, 2, 3)...), []int{0, 5, 4}},
		{6, append(ring(0, 1, 2, 3, 4, 5), arcs(0, 5)...), []int{0, 5}},
		{6, append(ring(0, 1, 2, 3, 4, 5), arcs(2, 5)...), []int{0, 1, 2, 5}},
		{6, append(ring(0, 1, 2, 3, 4, 5), arcs(3, 0)...), []int{0, 1, 2, 3}},
		// Of as many nodes the least one, node by node.
		{5, append(ring(0, 3, 1), ring(0, 2, 4)...), []int{0, 2, 4}},
		{5, append(ring(0, 2, 4), ring(0, 3, 1)...), []int{0, 2, 4}},
		{6, append(ring(0, 1, 5), ring(0, 2, 3)...), []int{0, 1, 5}},
		{6, append(ring(0, 2, 3), ring(0, 1, 5)...), []int{0, 1, 5}},
		{6, append(ring(0, 1, 4, 2), ring(0, 1, 3, 5)...), []int{0, 1, 3, 5}},
		{6, append(ring(0, 4, 2, 5), ring(0, 4, 2, 3)...), []int{0, 4, 2, 3}},
		{6, append(ring(0, 4, 2, 3), ring(0, 4, 2, 5)...), []int{0, 4, 2, 3}},
		{3, append(ring(0, 2), ring(0, 1)...), []int{0, 1}},
		// The least next node is of no use, where the way back from it is longer, or
		// there is none.
		{7, slices.Concat(ring(0, 5, 6), ring(0, 1, 2, 3)), []int{0, 5, 6}},
		{7, append(ring(0, 5, 6), row(0, 1, 2, 3)...), []int{0, 5, 6}},
		{7, slices.Concat(ring(0, 4, 5, 6), row(4, 1, 2, 0), row(5, 3)), []int{0, 4, 1, 2}},
		{7, slices.Concat(ring(0, 4, 5, 6), row(4, 1, 2, 3, 0)), []int{0, 4, 5, 6}},
		{7, slices.Concat(ring(0, 4, 5, 6), row(4, 1, 2, 3), arcs(1, 1)), []int{0, 4, 5, 6}},
	} {
		wantRing(t, c.n, c.all, c.want, api.OK)
		wantRing(t, c.n, fallingArcs(c.all), c.want, api.OK)
		if got := slowRing(c.n, c.all); !slices.Equal(got, c.want) {
			t.Errorf("%s: %v", fewArcs(c.all), got)
		}
	}
}

// P17.3: mixed graphs, of which every ring is gone through.
func TestRingOfEvery(t *testing.T) {
	roll := dice(37)
	lengths := map[int]int{}
	for range 20000 {
		n := 5 + roll.below(5)
		all := roll.graph(n, n/2+roll.below(n+4))
		want := slowRing(n, all)
		wantRing(t, n, all, want, api.OK)
		lengths[len(want)]++
	}
	for length := range 6 {
		if lengths[length] < 50 {
			t.Errorf("%d rings of %d nodes", lengths[length], length)
		}
	}
}

// P17.3: graphs of more nodes, with rings of more, held against the table.
func TestRingsOfMixedGraphs(t *testing.T) {
	roll := dice(41)
	for range 300 {
		n := 20 + roll.below(80)
		all := append(roll.free(n, roll.below(4*n)), roll.graph(n, roll.below(6))...)
		wantRing(t, n, roll.shuffled(all), plainRing(steps(n, all)), api.OK)
	}
}

// knots has as many nodes as are asked for, cut into groups, and so many arcs from
// any of them to groups ahead of its own; so no ring is of several groups. The
// groups of loops are rings, the others of one node that does not need itself.
func (d *dice) knots(n, loops, longest, many int) ([]api.Arc, [][]int) {
	list := d.mixed(n)
	group := make([]int, n)
	var all []api.Arc
	var rings [][]int
	at := 0
	for number := 0; at < n; number++ {
		length := 1
		isRing := len(rings) < loops && d.below(n/(2*loops)+1) == 0
		if isRing {
			length = 1 + d.below(min(longest, n-at))
			rings = append(rings, begun(list[at:at+length]))
			all = append(all, ring(list[at:at+length]...)...)
		}
		for i := at; i < at+length; i++ {
			group[i] = number
		}
		at += length
	}
	for len(all) < many {
		if from, to := d.below(n), d.below(n); group[from] > group[to] {
			all = append(all, api.Arc{From: list[from], To: list[to]})
		}
	}
	return all, rings
}

// P17.3: as many nodes and arcs as may be, with rings among them that are known.
func TestRingsOfGreatGraphs(t *testing.T) {
	roll := dice(43)
	none, several := 0, 0
	for _, loops := range []int{1, 2, 20, 500} {
		for _, longest := range []int{1, 3, 50, 3000} {
			for _, many := range []int{5000, 20000, mostArcs} {
				all, rings := roll.knots(mostNodes, loops, longest, many)
				all = roll.shuffled(all)
				if len(rings) == 0 {
					none++
					wantRing(t, mostNodes, all, nil, api.OK)
					continue
				}
				several += min(len(rings)-1, 1)
				want := slices.MinFunc(rings, func(a, b []int) int { return a[0] - b[0] })
				wantRing(t, mostNodes, all, want, api.OK)
				wantSort(t, mostNodes, all, nil, api.ErrRing)
			}
		}
	}
	if none == 0 || several < 20 {
		t.Errorf("%d, %d", none, several)
	}
}

// P17.3: layers of nodes, each of which needs all of the next one, and those of
// the last one the first node: as many rings as no one could go through.
func TestLayers(t *testing.T) {
	roll := dice(47)
	for _, c := range []struct{ layers, wide int }{{1, 4095}, {2, 250}, {3, 180}, {16, 63}, {60, 31}, {1000, 4}, {2047, 2}, {4095, 1}} {
		list := append([]int{0}, shift(roll.mixed(c.layers*c.wide))...)
		n := len(list)
		over := list[:1]
		var all []api.Arc
		want := []int{0}
		for i := range c.layers {
			layer := list[1+i*c.wide : 1+(i+1)*c.wide]
			all = append(all, between(over, layer)...)
			want = append(want, slices.Min(layer))
			over = layer
		}
		all = roll.shuffled(append(all, between(over, list[:1])...))
		wantRing(t, n, all, want, api.OK)
		wantSort(t, n, all, nil, api.ErrRing)
		wantNeeds(t, n, all, []int{n - 1}, numbers(0, n), api.OK)
	}
}

// between has all of one list need all of another one.
func between(from, to []int) []api.Arc {
	var all []api.Arc
	for _, f := range from {
		for _, k := range to {
			all = append(all, api.Arc{From: f, To: k})
		}
	}
	return all
}

func shift(list []int) []int {
	for i := range list {
		list[i]++
	}
	return list
}

// P17.3: every node needs every one, itself or not.
func TestAllNeedAll(t *testing.T) {
	roll := dice(53)
	for _, n := range []int{2, 3, 17, 100, 256} {
		all := between(numbers(0, n), numbers(0, n))
		wantRing(t, n, roll.shuffled(all), []int{0}, api.OK)
		others := slices.DeleteFunc(all, func(a api.Arc) bool { return a.From == a.To })
		wantRing(t, n, roll.shuffled(others), []int{0, 1}, api.OK)
		// The first ones that need themselves, or need nothing, change which is told.
		wantRing(t, n, roll.shuffled(append(others, api.Arc{From: n - 1, To: n - 1})), []int{0, 1}, api.OK)
		mute := slices.DeleteFunc(others, func(a api.Arc) bool { return a.From == 0 })
		if n > 2 {
			wantRing(t, n, roll.shuffled(mute), []int{1, 2}, api.OK)
		}
	}
}
