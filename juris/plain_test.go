package juris_test

// What the tests hold the package against: of each place the list of all that are
// over it, which is grown from the roots down, or read off a table of which place
// leads to which; nothing of the package is in it.

import (
	"math"
	"slices"
	"strconv"
	"testing"

	"tollbook/api"
	"tollbook/juris"
)

// wrongPlaces are no places, however many there are.
func wrongPlaces() []int {
	return []int{-1, -2, -3, -4096, -1 << 32, 1<<32 - 1, 1 << 32, 1<<32 + 1, 4096, 4097, 1 << 20, math.MinInt, math.MinInt + 1, math.MaxInt, math.MaxInt - 1}
}

// forest has the path of each place.
type forest struct {
	parents []int
	paths   [][]int
}

// leads tells of each place to which ones its parents lead, in one step or more.
func leads(parents []int) [][]bool {
	table := make([][]bool, len(parents))
	for i, p := range parents {
		table[i] = make([]bool, len(parents))
		if p >= 0 {
			table[i][p] = true
		}
	}
	for m := range table {
		for i := range table {
			for k := range table {
				table[i][k] = table[i][k] || table[i][m] && table[m][k]
			}
		}
	}
	return table
}

// plainFault asks each place by itself.
func plainFault(parents []int) api.Fault {
	if len(parents) > 4096 {
		return api.Fault{Err: api.ErrLong, At: -1}
	}
	for i, p := range parents {
		if p < -1 || p >= len(parents) {
			return api.Fault{Err: api.ErrParent, At: i}
		}
	}
	for i, row := range leads(parents) {
		if row[i] {
			return api.Fault{Err: api.ErrRing, At: i}
		}
	}
	return api.Fault{}
}

// plainForest is of parents that may be: of those to which a place leads, the one
// that leads to the most is the nearest.
func plainForest(parents []int) forest {
	table := leads(parents)
	f := forest{parents: parents}
	for i := range parents {
		var path []int
		for k := range parents {
			if k == i || table[i][k] {
				path = append(path, k)
			}
		}
		slices.SortFunc(path, func(a, b int) int { return many(table[b]) - many(table[a]) })
		f.paths = append(f.paths, path)
	}
	return f
}

func many(row []bool) int {
	n := 0
	for _, is := range row {
		if is {
			n++
		}
	}
	return n
}

func (f forest) is(i int) bool {
	return i >= 0 && i < len(f.parents)
}

func (f forest) within(i, over int) bool {
	return f.is(i) && slices.Contains(f.paths[i], over)
}

func (f forest) meet(i, k int) (int, bool) {
	if !f.is(i) || !f.is(k) {
		return 0, false
	}
	best, found := 0, false
	for place, path := range f.paths {
		if f.within(i, place) && f.within(k, place) && (!found || len(path) > len(f.paths[best])) {
			best, found = place, true
		}
	}
	return best, found
}

func (f forest) under(i int) []int {
	var list []int
	for k := range f.paths {
		if f.within(k, i) {
			list = append(list, k)
		}
	}
	return list
}

// order looks each time for the least one that may come next.
func (f forest) order() []int {
	var list []int
	told := make([]bool, len(f.parents))
	for range f.parents {
		for i, p := range f.parents {
			if !told[i] && (p == -1 || told[p]) {
				told[i] = true
				list = append(list, i)
				break
			}
		}
	}
	return list
}

// dice rolls the same numbers in each run.
type dice uint64

func (d *dice) below(n int) int {
	*d ^= *d << 13
	*d ^= *d >> 7
	*d ^= *d << 17
	return int(uint64(*d) % uint64(n))
}

// mixed are the numbers below n, in some order.
func (d *dice) mixed(n int) []int {
	list := make([]int, n)
	for i := range list {
		j := d.below(i + 1)
		list[i], list[j] = list[j], i
	}
	return list
}

// grow has n places, the numbers of which are mixed; each but the first ones has
// as its parent one of the last so many ahead of it: of few, the paths are long.
func (d *dice) grow(n, roots, last int) forest {
	numbers := d.mixed(n)
	f := forest{make([]int, n), make([][]int, n)}
	for at, i := range numbers {
		f.parents[i], f.paths[i] = -1, []int{i}
		if at >= roots {
			parent := numbers[at-1-d.below(min(at, last))]
			f.parents[i] = parent
			f.paths[i] = append(f.paths[i], f.paths[parent]...)
		}
	}
	return f
}

// chain has n places, each in the one that stands so many ahead of it, or behind
// it, where that is below 0.
func chain(n, step int) []int {
	list := make([]int, n)
	for i := range list {
		list[i] = i - step
		if list[i] < 0 || list[i] >= n {
			list[i] = -1
		}
	}
	return list
}

func tree(t *testing.T, parents ...int) *juris.Tree {
	t.Helper()
	x, f := juris.New(parents)
	if x == nil || f != (api.Fault{}) {
		t.Fatalf("New(%s): %v", few(parents), f)
	}
	return x
}

func wantFault(t *testing.T, parents []int, err api.Errno, at int) {
	t.Helper()
	if x, f := juris.New(parents); x != nil || f != (api.Fault{Err: err, At: at}) {
		t.Fatalf("New(%s): %v, wanted error %d at %d", few(parents), f, err, at)
	}
}

// wantPlace holds what a tree says of one number against a forest.
func wantPlace(t *testing.T, x *juris.Tree, f forest, i int) {
	t.Helper()
	parent, path, deep, err := 0, []int(nil), 0, api.ErrPlace
	if f.is(i) {
		parent, path, deep, err = f.parents[i], f.paths[i], len(f.paths[i])-1, api.OK
	}
	if got, e := x.Parent(i); got != parent || e != err {
		t.Fatalf("Parent(%d) of %s: %d, error %d; wanted %d, %d", i, few(f.parents), got, e, parent, err)
	}
	if got, e := x.Deep(i); got != deep || e != err {
		t.Fatalf("Deep(%d) of %s: %d, error %d; wanted %d, %d", i, few(f.parents), got, e, deep, err)
	}
	if got := slices.Collect(x.Path(i)); !slices.Equal(got, path) {
		t.Fatalf("Path(%d) of %s: %s; wanted %s", i, few(f.parents), few(got), few(path))
	}
}

func wantUnder(t *testing.T, x *juris.Tree, f forest, i int) {
	t.Helper()
	under, err := []int(nil), api.ErrPlace
	if f.is(i) {
		under, err = f.under(i), api.OK
	}
	if got, e := x.Under(i); !slices.Equal(got, under) || e != err {
		t.Fatalf("Under(%d) of %s: %s, error %d; wanted %s, %d", i, few(f.parents), few(got), e, few(under), err)
	}
}

func wantPair(t *testing.T, x *juris.Tree, f forest, i, k int) {
	t.Helper()
	if got, is := x.Within(i, k), f.within(i, k); got != is {
		t.Fatalf("Within(%d, %d) of %s: %v", i, k, few(f.parents), got)
	}
	meet, is := f.meet(i, k)
	if got, ok := x.Meet(i, k); got != meet || ok != is {
		t.Fatalf("Meet(%d, %d) of %s: %d, %v; wanted %d, %v", i, k, few(f.parents), got, ok, meet, is)
	}
}

func wantOrder(t *testing.T, x *juris.Tree, parents, order []int) {
	t.Helper()
	if got := x.Order(); !slices.Equal(got, order) {
		t.Fatalf("Order of %s: %s; wanted %s", few(parents), few(got), few(order))
	}
}

// wantForest asks a tree of all places and pairs, and of numbers that are none.
func wantForest(t *testing.T, x *juris.Tree, f forest) {
	t.Helper()
	if x.Len() != len(f.parents) {
		t.Fatalf("Len of %s: %d", few(f.parents), x.Len())
	}
	for i := -2; i < len(f.parents)+2; i++ {
		wantPlace(t, x, f, i)
		wantUnder(t, x, f, i)
		for k := -2; k < len(f.parents)+2; k++ {
			wantPair(t, x, f, i, k)
		}
	}
	wantOrder(t, x, f.parents, f.order())
}

// few cuts long lists for what is told.
func few(list []int) string {
	text := ""
	for i, n := range list {
		if i == 20 {
			return text + " .."
		}
		text += " " + strconv.Itoa(n)
	}
	return text
}

// The plain ways are themselves held against what anyone sees.
func TestPlain(t *testing.T) {
	f := plainForest([]int{-1, 0, 0, 1, -1, 3})
	for i, path := range [][]int{{0}, {1, 0}, {2, 0}, {3, 1, 0}, {4}, {5, 3, 1, 0}} {
		if !slices.Equal(f.paths[i], path) {
			t.Errorf("%v", f.paths[i])
		}
	}
	if place, is := f.meet(5, 2); place != 0 || !is || !f.within(5, 1) || f.within(1, 5) || !slices.Equal(f.under(1), []int{1, 3, 5}) {
		t.Error("the forest")
	}
	if got := (forest{parents: []int{3, -1, 0, 1}}).order(); !slices.Equal(got, []int{1, 3, 0, 2}) {
		t.Errorf("%v", got)
	}
	if got := plainFault([]int{1, 2, 1}); got != (api.Fault{Err: api.ErrRing, At: 1}) {
		t.Errorf("%v", got)
	}
	if got := plainFault([]int{1, 0, 3, -2}); got != (api.Fault{Err: api.ErrParent, At: 3}) {
		t.Errorf("%v", got)
	}
	roll := dice(5)
	for range 20 {
		grown := roll.grow(30, 1+roll.below(5), 1+roll.below(20))
		for i, path := range plainForest(grown.parents).paths {
			if !slices.Equal(grown.paths[i], path) {
				t.Errorf("%v: %v, %v", grown.parents, grown.paths[i], path)
			}
		}
	}
	numbers := roll.mixed(500)
	if slices.IsSorted(numbers) {
		t.Error("the dice are loaded")
	}
	slices.Sort(numbers)
	if numbers[0] != 0 || numbers[499] != 499 || len(slices.Compact(numbers)) != 500 {
		t.Error("mixing has lost numbers")
	}
}
