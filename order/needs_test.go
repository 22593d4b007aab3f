package order_test

import (
	"slices"
	"testing"

	"tollbook/api"
)

// P17.4: the chapter's examples; and from with nodes on rings, ahead of them and
// behind them, in any order and several times.
func TestNeeds(t *testing.T) {
	all := arcs(0, 2, 2, 3, 3, 2, 4, 0)
	for _, c := range []struct{ from, want []int }{
		{nil, nil},
		{[]int{}, nil},
		{[]int{0}, []int{2, 3}},
		{[]int{4, 4}, []int{0, 2, 3}},
		{[]int{3}, []int{2, 3}},
		{[]int{2}, []int{2, 3}},
		{[]int{1}, nil},
		{[]int{1, 1, 1}, nil},
		{[]int{0, 1}, []int{2, 3}},
		{[]int{4, 0}, []int{0, 2, 3}},
		{[]int{0, 4}, []int{0, 2, 3}},
		{[]int{4, 3, 2, 1, 0, 4}, []int{0, 2, 3}},
	} {
		wantNeeds(t, 5, all, c.from, c.want, api.OK)
		wantNeeds(t, 5, slices.Concat(all, all, fallingArcs(all)), c.from, c.want, api.OK)
	}
	for _, c := range []struct {
		all        []api.Arc
		from, want []int
	}{
		{arcs(1, 1), []int{1}, []int{1}},
		{arcs(1, 1), []int{0}, nil},
		{arcs(1, 1, 0, 1), []int{0}, []int{1}},
		{arcs(1, 0), []int{1}, []int{0}},
		{arcs(1, 0), []int{0}, nil},
		{arcs(1, 0), []int{0, 1}, []int{0}},
		{ring(0, 1, 2, 3), []int{2}, []int{0, 1, 2, 3}},
		{row(3, 1, 2, 0), []int{1}, []int{0, 2}},
		{row(3, 1, 2, 0), []int{1, 3}, []int{0, 1, 2}},
		{append(row(3, 1), row(2, 0)...), []int{2, 3}, []int{0, 1}},
		{append(row(3, 1, 0), row(2, 1)...), []int{2}, []int{0, 1}},
	} {
		wantNeeds(t, 4, c.all, c.from, c.want, api.OK)
	}
}

// P17.4: all graphs of three nodes, asked from all lists of up to three.
func TestNeedsOfAllLists(t *testing.T) {
	var lists [][]int
	for i := range 4 {
		for j := range 4 {
			for k := range 4 {
				lists = append(lists, slices.DeleteFunc([]int{i, j, k}, func(node int) bool { return node == 3 }))
			}
		}
	}
	everyGraph(3, func(all []api.Arc) {
		table := steps(3, all)
		for _, from := range lists {
			wantNeeds(t, 3, all, from, plainNeeds(table, from), api.OK)
		}
	})
}

// P17.4: graphs of more nodes, asked from few and from many.
func TestNeedsOfMixedGraphs(t *testing.T) {
	roll := dice(59)
	for range 100 {
		n := 10 + roll.below(90)
		all := roll.graph(n, roll.below(2*n))
		table := steps(n, all)
		for range 20 {
			var from []int
			for range roll.below(1 + roll.below(2*n)) {
				from = append(from, roll.below(n))
			}
			wantNeeds(t, n, all, from, plainNeeds(table, from), api.OK)
		}
	}
}

// P17.4: as many nodes and arcs as may be. From may be of any length: a node that
// it names a million times, and that needs much, is named once.
func TestNeedsOfGreatGraphs(t *testing.T) {
	var star, tree []api.Arc
	for i := range mostArcs {
		star = append(star, api.Arc{From: 7, To: i % mostNodes})
	}
	for i := 1; i < mostNodes; i++ {
		tree = append(tree, api.Arc{From: i / 2, To: i})
	}
	whole := numbers(0, mostNodes)
	wantNeeds(t, mostNodes, star, slices.Repeat([]int{7}, 1<<22), whole, api.OK)
	wantNeeds(t, mostNodes, star, without(whole, 7), nil, api.OK)
	wantNeeds(t, mostNodes, tree, []int{0}, whole[1:], api.OK)
	wantNeeds(t, mostNodes, tree, []int{1}, whole[2:], api.OK)
	wantNeeds(t, mostNodes, tree, []int{2, 3}, whole[4:], api.OK)
	wantNeeds(t, mostNodes, tree, []int{3, 1}, whole[2:], api.OK)
	wantNeeds(t, mostNodes, tree, []int{2048, 4095, 2047}, whole[4094:], api.OK)
	wantNeeds(t, mostNodes, tree, whole[2:], whole[4:], api.OK)
	wantNeeds(t, mostNodes, tree, slices.Repeat(whole, 100), whole[1:], api.OK)
}
