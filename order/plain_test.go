package order_test

// What the tests hold the package against: every ring that there is, gone through
// one by one; a table of how many arcs lie between any two nodes; nodes looked for
// from the first one on each time. Nothing of the package is in it.

import (
	"cmp"
	"math"
	"slices"
	"strconv"
	"testing"

	"tollbook/api"
	"tollbook/order"
)

// mostNodes and mostArcs are what may be.
const (
	mostNodes = 4096
	mostArcs  = 65536
)

// wrongCounts are no numbers of nodes, wrongNodes no nodes of any graph.
func wrongCounts() []int {
	return []int{-1, -2, -4096, 4097, 4098, 65536, -1 << 32, 1 << 32, 1<<32 + 3, math.MinInt, math.MinInt + 1, math.MaxInt, math.MaxInt - 1}
}

func wrongNodes() []int {
	return []int{-1, -2, -4096, 4096, 4097, -1 << 32, 1 << 32, 1<<32 + 1, math.MinInt, math.MinInt + 1, math.MaxInt, math.MaxInt - 1}
}

// arcs are of pairs of nodes.
func arcs(list ...int) []api.Arc {
	var all []api.Arc
	for i := 0; i < len(list); i += 2 {
		all = append(all, api.Arc{From: list[i], To: list[i+1]})
	}
	return all
}

// row has each node of a list need the next one, ring the last one the first too.
func row(list ...int) []api.Arc {
	var all []api.Arc
	for i := 1; i < len(list); i++ {
		all = append(all, api.Arc{From: list[i-1], To: list[i]})
	}
	return all
}

func ring(list ...int) []api.Arc {
	return row(append(slices.Clone(list), list[0])...)
}

// numbers are those from a on that are below b.
func numbers(a, b int) []int {
	var list []int
	for ; a < b; a++ {
		list = append(list, a)
	}
	return list
}

// falling has the last one first.
func falling(list []int) []int {
	list = slices.Clone(list)
	slices.Reverse(list)
	return list
}

// plainSort looks each time for the least node that may come next.
func plainSort(n int, all []api.Arc) ([]int, api.Errno) {
	told := make([]bool, n)
	var list []int
	for range n {
		held := make([]bool, n)
		for _, a := range all {
			if !told[a.To] {
				held[a.From] = true
			}
		}
		next := 0
		for next < n && (told[next] || held[next]) {
			next++
		}
		if next == n {
			return nil, api.ErrRing
		}
		told[next] = true
		list = append(list, next)
	}
	return list, api.OK
}

// everyRing goes through all rings, each begun with each of its nodes.
func everyRing(n int, all []api.Arc, look func(ring []int)) {
	var goOn func(path []int)
	goOn = func(path []int) {
		for _, a := range all {
			switch {
			case a.From != path[len(path)-1]:
			case a.To == path[0]:
				look(path)
			case !slices.Contains(path, a.To):
				goOn(append(slices.Clone(path), a.To))
			}
		}
	}
	for node := range n {
		goOn([]int{node})
	}
}

// slowRing is the chosen one of all rings.
func slowRing(n int, all []api.Arc) []int {
	var rings [][]int
	everyRing(n, all, func(ring []int) { rings = append(rings, ring) })
	if rings == nil {
		return nil
	}
	return slices.MinFunc(rings, func(a, b []int) int {
		return cmp.Or(cmp.Compare(a[0], b[0]), cmp.Compare(len(a), len(b)), slices.Compare(a, b))
	})
}

// steps tells between any two nodes how many arcs there are at the least, one or
// more; where no way leads, more than n.
func steps(n int, all []api.Arc) [][]int {
	table := make([][]int, n)
	for i := range table {
		table[i] = slices.Repeat([]int{2 * mostNodes}, n)
	}
	for _, a := range all {
		table[a.From][a.To] = 1
	}
	for m := range table {
		for i := range table {
			for k := range table {
				table[i][k] = min(table[i][k], table[i][m]+table[m][k])
			}
		}
	}
	return table
}

// plainRing reads the ring off the table, for graphs of more nodes than slowRing
// can go through.
func plainRing(table [][]int) []int {
	first := 0
	for first < len(table) && table[first][first] > len(table) {
		first++
	}
	if first == len(table) {
		return nil
	}
	list := []int{first}
	for left := table[first][first] - 1; left > 0; left-- {
		next := 0
		for table[list[len(list)-1]][next] != 1 || table[next][first] != left {
			next++
		}
		list = append(list, next)
	}
	return list
}

func plainNeeds(table [][]int, from []int) []int {
	var list []int
	for node := range table {
		if slices.ContainsFunc(from, func(f int) bool { return table[f][node] <= len(table) }) {
			list = append(list, node)
		}
	}
	return list
}

// dice rolls the same numbers in each run.
type dice uint64

func (d *dice) below(n int) int {
	*d ^= *d << 13
	*d ^= *d >> 7
	*d ^= *d << 17
	return int(uint64(*d) % uint64(n))
}

// mixed are the numbers below n, in some order.
func (d *dice) mixed(n int) []int {
	list := make([]int, n)
	for i := range list {
		j := d.below(i + 1)
		list[i], list[j] = list[j], i
	}
	return list
}

// shuffled has the arcs in another order.
func (d *dice) shuffled(all []api.Arc) []api.Arc {
	var list []api.Arc
	for _, i := range d.mixed(len(all)) {
		list = append(list, all[i])
	}
	return list
}

// graph has so many arcs from any nodes to any.
func (d *dice) graph(n, many int) []api.Arc {
	var all []api.Arc
	for range many {
		all = append(all, api.Arc{From: d.below(n), To: d.below(n)})
	}
	return all
}

// free has so many arcs, with no ring: each leads to a node ahead of its own in a
// mixed order.
func (d *dice) free(n, many int) []api.Arc {
	var all []api.Arc
	list := d.mixed(n)
	for range many {
		at := 1 + d.below(n-1)
		all = append(all, api.Arc{From: list[at], To: list[d.below(at)]})
	}
	return all
}

func wantSort(t *testing.T, n int, all []api.Arc, want []int, err api.Errno) {
	t.Helper()
	if got, e := order.Sort(n, all); e != err || !slices.Equal(got, want) {
		t.Fatalf("Sort(%d, %s): %s, error %d; wanted %s, %d", n, fewArcs(all), few(got), e, few(want), err)
	}
}

func wantRing(t *testing.T, n int, all []api.Arc, want []int, err api.Errno) {
	t.Helper()
	if got, e := order.Ring(n, all); e != err || !slices.Equal(got, want) {
		t.Fatalf("Ring(%d, %s): %s, error %d; wanted %s, %d", n, fewArcs(all), few(got), e, few(want), err)
	}
}

func wantNeeds(t *testing.T, n int, all []api.Arc, from, want []int, err api.Errno) {
	t.Helper()
	if got, e := order.Needs(n, all, from); e != err || !slices.Equal(got, want) {
		t.Fatalf("Needs(%d, %s, %s): %s, error %d; wanted %s, %d", n, fewArcs(all), few(from), few(got), e, few(want), err)
	}
}

// wantGraph asks for the order, the ring, and what is needed by each node, by all
// and by those of from.
func wantGraph(t *testing.T, n int, all []api.Arc, from []int) {
	t.Helper()
	list, err := plainSort(n, all)
	wantSort(t, n, all, list, err)
	table := steps(n, all)
	wantRing(t, n, all, plainRing(table), api.OK)
	for node := range n {
		wantNeeds(t, n, all, []int{node}, plainNeeds(table, []int{node}), api.OK)
	}
	wantNeeds(t, n, all, numbers(0, n), plainNeeds(table, numbers(0, n)), api.OK)
	wantNeeds(t, n, all, from, plainNeeds(table, from), api.OK)
	wantNeeds(t, n, all, nil, nil, api.OK)
}

// few and fewArcs cut long lists for what is told.
func few(list []int) string {
	text := "[" + strconv.Itoa(len(list)) + ":"
	for _, n := range list[:min(len(list), 20)] {
		text += " " + strconv.Itoa(n)
	}
	return text + "]"
}

func fewArcs(all []api.Arc) string {
	text := "[" + strconv.Itoa(len(all)) + ":"
	for _, a := range all[:min(len(all), 20)] {
		text += " " + strconv.Itoa(a.From) + ">" + strconv.Itoa(a.To)
	}
	return text + "]"
}

// The plain ways are themselves held against what anyone sees, and against each
// other.
func TestPlain(t *testing.T) {
	if list, err := plainSort(4, arcs(0, 2, 2, 3, 1, 3)); err != api.OK || !slices.Equal(list, []int{3, 1, 2, 0}) {
		t.Errorf("%v, %d", list, err)
	}
	if list, err := plainSort(3, arcs(1, 1)); err != api.ErrRing || list != nil {
		t.Errorf("%v, %d", list, err)
	}
	for _, c := range []struct {
		n    int
		all  []api.Arc
		want []int
	}{
		{5, arcs(3, 4, 4, 3, 1, 2, 2, 1), []int{1, 2}},
		{4, arcs(0, 1, 1, 2, 2, 0, 1, 3, 3, 0), []int{0, 1, 2}},
		{3, arcs(0, 1, 2, 2), []int{2}},
		{3, arcs(0, 1, 1, 2), nil},
	} {
		if got := slowRing(c.n, c.all); !slices.Equal(got, c.want) {
			t.Errorf("%v: %v", c.all, got)
		}
	}
	roll := dice(17)
	for range 3000 {
		n := 1 + roll.below(7)
		all := roll.graph(n, roll.below(2*n+1))
		if a, b := slowRing(n, all), plainRing(steps(n, all)); !slices.Equal(a, b) {
			t.Errorf("%v: %v, %v", all, a, b)
		}
	}
	if got := plainNeeds(steps(5, arcs(0, 2, 2, 3, 3, 2, 4, 0)), []int{4, 4}); !slices.Equal(got, []int{0, 2, 3}) {
		t.Errorf("%v", got)
	}
	if plainRing(steps(50, roll.free(50, 300))) != nil {
		t.Error("free of rings")
	}
	list := roll.mixed(500)
	if slices.IsSorted(list) {
		t.Error("the dice are loaded")
	}
	slices.Sort(list)
	if !slices.Equal(list, numbers(0, 500)) {
		t.Error("mixing has lost numbers")
	}
}
