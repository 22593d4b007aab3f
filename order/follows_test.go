package order_test

import (
	"slices"
	"testing"

	"tollbook/api"
	"tollbook/order"
)

// sized is a graph and how many nodes it has.
type sized struct {
	n   int
	all []api.Arc
}

// someGraphs are of all kinds: with rings and without, of few arcs and many.
func someGraphs() []sized {
	roll := dice(61)
	list := []sized{{}, {1, nil}, {1, arcs(0, 0)}, {5, nil}, {mostNodes, nil}, {mostNodes, row(numbers(0, mostNodes)...)}, {mostNodes, ring(roll.mixed(mostNodes)...)}, {mostNodes, roll.graph(mostNodes, mostArcs)}, {mostNodes, roll.free(mostNodes, mostArcs)}, {2, make([]api.Arc, mostArcs)}}
	for i := range 200 {
		n := 2 + roll.below(60)
		if i%20 == 0 {
			n = 2 + roll.below(mostNodes-1)
		}
		all := roll.free(n, roll.below(3*n))
		if i%2 == 0 {
			all = append(all, roll.graph(n, 1+roll.below(1+n/2))...)
		}
		list = append(list, sized{n, all})
	}
	return list
}

func sort(t *testing.T, n int, all []api.Arc) ([]int, api.Errno) {
	t.Helper()
	list, err := order.Sort(n, all)
	if err != api.OK && list != nil {
		t.Fatalf("%s beside error %d", few(list), err)
	}
	return list, err
}

// needs are of from's nodes that are nodes.
func needs(t *testing.T, g sized, from ...int) []int {
	t.Helper()
	list, err := order.Needs(g.n, g.all, from)
	if err != api.OK {
		t.Fatalf("error %d", err)
	}
	return list
}

func ringOf(t *testing.T, g sized) []int {
	t.Helper()
	list, err := order.Ring(g.n, g.all)
	if err != api.OK {
		t.Fatalf("error %d", err)
	}
	return list
}

// P17.5: there is either a sorted order, which has each node once and each arc's
// To ahead of its From, or a ring, each node of which needs the next one.
func TestOrderOrRing(t *testing.T) {
	sortable, ringed := 0, 0
	for _, g := range someGraphs() {
		list, err := sort(t, g.n, g.all)
		loop := ringOf(t, g)
		if (err == api.OK) != (len(loop) == 0) || err != api.OK && err != api.ErrRing {
			t.Fatalf("error %d, and the ring %s", err, few(loop))
		}
		if err == api.OK {
			sortable++
			wantOrdered(t, g, list)
			continue
		}
		ringed++
		is := map[api.Arc]bool{}
		for _, a := range g.all {
			is[a] = true
		}
		for _, a := range ring(loop...) {
			if !is[a] {
				t.Fatalf("%s is no ring: %d does not need %d", few(loop), a.From, a.To)
			}
		}
		if len(slices.Compact(risen(loop))) != len(loop) || slices.Min(loop) != loop[0] {
			t.Fatalf("the ring %s", few(loop))
		}
	}
	if sortable < 50 || ringed < 50 {
		t.Errorf("%d, %d", sortable, ringed)
	}
}

func wantOrdered(t *testing.T, g sized, list []int) {
	t.Helper()
	if !slices.Equal(risen(list), numbers(0, g.n)) {
		t.Fatalf("not all nodes, or not once: %s", few(list))
	}
	at := make([]int, g.n)
	for i, node := range list {
		at[node] = i
	}
	for _, a := range g.all {
		if at[a.To] >= at[a.From] {
			t.Fatalf("%d comes ahead of %d, which it needs", a.From, a.To)
		}
	}
}

// P17.5: what Needs answers has all that its nodes need, and all that from's do;
// and nothing beside it: asked of two, it is what it is of each.
func TestNeedsIsClosed(t *testing.T) {
	roll := dice(67)
	for _, g := range someGraphs() {
		for range min(g.n, 5) {
			a, b := roll.below(g.n), roll.below(g.n)
			list := needs(t, g, a, b)
			if !slices.IsSorted(list) || len(slices.Compact(slices.Clone(list))) != len(list) {
				t.Fatalf("%s does not rise", few(list))
			}
			in := make([]bool, g.n)
			for _, node := range list {
				in[node] = true
			}
			for _, arc := range g.all {
				if (in[arc.From] || arc.From == a || arc.From == b) && !in[arc.To] {
					t.Fatalf("%d is not needed, but %d needs it", arc.To, arc.From)
				}
			}
			both := slices.Compact(risen(slices.Concat(needs(t, g, a), needs(t, g, b))))
			if !slices.Equal(list, both) {
				t.Fatalf("%s, and one by one %s", few(list), few(both))
			}
			if more := needs(t, g, list...); len(slices.DeleteFunc(more, func(node int) bool { return in[node] })) > 0 {
				t.Fatalf("what is needed needs more: %s", few(more))
			}
		}
	}
}

// P17.5: a node lies on a ring, if it needs itself over however many others; the
// ring begins with the least of them.
func TestRingAndNeedsFollow(t *testing.T) {
	for _, g := range someGraphs() {
		if g.n > 100 {
			continue
		}
		first := -1
		for node := g.n - 1; node >= 0; node-- {
			if slices.Contains(needs(t, g, node), node) {
				first = node
			}
		}
		loop := ringOf(t, g)
		if (first < 0) != (len(loop) == 0) || first >= 0 && loop[0] != first {
			t.Fatalf("the ring %s, and %d needs itself", few(loop), first)
		}
		if first >= 0 && !slices.Equal(needs(t, g, loop...), needs(t, g, first)) {
			t.Fatal("nodes of one ring do not need the same")
		}
	}
}

// P17.5: arcs in another order, or twice, change nothing; nor does the order of
// what Needs is asked of.
func TestSameArcs(t *testing.T) {
	roll := dice(71)
	for _, g := range someGraphs() {
		list, err := sort(t, g.n, g.all)
		loop := ringOf(t, g)
		var from, needed []int
		if g.n > 0 {
			from = []int{g.n / 2, g.n - 1, g.n / 3}
			needed = needs(t, g, from...)
		}
		half := g.all[:min(len(g.all), mostArcs-len(g.all))]
		for _, all := range [][]api.Arc{fallingArcs(g.all), roll.shuffled(g.all), roll.shuffled(append(half, g.all...)), slices.Concat(half, g.all), slices.Compact(slices.Clone(g.all))} {
			wantSort(t, g.n, all, list, err)
			wantRing(t, g.n, all, loop, api.OK)
			wantNeeds(t, g.n, all, from, needed, api.OK)
			wantNeeds(t, g.n, all, falling(append(from, from...)), needed, api.OK)
		}
	}
}
