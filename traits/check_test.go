package traits_test

import (
	"math"
	"slices"
	"strings"
	"testing"

	"tollbook/api"
	"tollbook/traits"
)

func wantCondition(t *testing.T, list nodes) {
	t.Helper()
	if err := traits.Check(list); err != api.OK {
		t.Errorf("Check(%v) is %d", few(list), err)
	}
	if slowCheck(list) != api.OK {
		t.Errorf("the slow way refuses %v", few(list))
	}
}

// wantNoTree asks each call that takes nodes: it tells ErrTree, and nothing
// beside it.
func wantNoTree(t *testing.T, list nodes) {
	t.Helper()
	if err := traits.Check(list); err != api.ErrTree {
		t.Errorf("Check(%v) is %d", few(list), err)
	}
	for _, f := range []api.Facts{{}, {Digits: -1}} {
		if is, err := traits.Holds(list, f); is || err != api.ErrTree {
			t.Errorf("Holds(%v) is %t, %d", few(list), is, err)
		}
	}
	if plain, err := traits.Plain(list); len(plain) != 0 || err != api.ErrTree {
		t.Errorf("Plain(%v) is %v, %d", few(list), plain, err)
	}
	if buyers, lines, err := traits.Names(list); len(buyers) != 0 || len(lines) != 0 || err != api.ErrTree {
		t.Errorf("Names(%v) is %q, %q, %d", few(list), buyers, lines, err)
	}
}

func few(list nodes) nodes {
	return list[:min(len(list), 20)]
}

// everyTest is a test of each kind, by each Op.
func everyTest() []nodes {
	all := []nodes{buyer("a"), line("a")}
	for op := api.OpBelow; op <= api.OpLeast; op++ {
		all = append(all, amount(op, 5, 0), quantity(op, 5, 0))
	}
	return all
}

// P13.2: the chapter's examples.
func TestCheckExamples(t *testing.T) {
	wantCondition(t, nil)
	wantCondition(t, buyer("vat"))
	wantCondition(t, and(buyer("a"), not(line("b")), or(line("c"), amount(api.OpBelow, 5, 0))))
	named := not(buyer("a"))
	named[0].Name = "x"
	withKid := append(buyer("a"), buyer("b")...)
	withKid[0].Kids = 1
	for _, list := range []nodes{or(buyer("a")), or(buyer("a"), or(buyer("b"), buyer("c"))), and(), append(buyer("a"), buyer("b")...), buyer("Vat"), buyer("and"), amount(api.OpBelow, -1, 0), amount(5, 1, 0), named, withKid, or(times(64, buyer("a"))...), nots(16, buyer("a"))} {
		wantNoTree(t, list)
	}
}

// P13.2: each kind of node, alone and as a kid of each kind.
func TestCheckKinds(t *testing.T) {
	wantCondition(t, nodes{})
	tests := everyTest()
	for _, x := range tests {
		wantCondition(t, x)
		wantCondition(t, not(x))
		wantCondition(t, not(not(x)))
		for _, y := range tests {
			wantCondition(t, or(x, y))
			wantCondition(t, and(x, y, x))
			wantCondition(t, or(and(x, y), not(x), y))
			wantCondition(t, and(not(or(x, y)), or(y, x), not(and(x, x))))
		}
	}
	for _, kind := range []api.NodeKind{0, -1, 8, 9, 100, math.MinInt, math.MaxInt} {
		for n := range 4 {
			kids := times(n, buyer("a"))
			wantNoTree(t, over(kind, kids...))
			wantNoTree(t, not(over(kind, kids...)))
			wantNoTree(t, or(buyer("a"), over(kind, kids...)))
			wantNoTree(t, over(kind, or(buyer("a"), buyer("b"))))
		}
		for _, x := range tests {
			x[0].Kind = kind
			wantNoTree(t, x)
		}
		tests = everyTest()
	}
}

// P13.2: no more and no fewer kids than the table asks, and none of the kind of
// an Or or an And itself, at whichever place.
func TestCheckKids(t *testing.T) {
	a := buyer("a")
	for _, kind := range []api.NodeKind{api.NodeOr, api.NodeAnd} {
		other := api.NodeOr + api.NodeAnd - kind
		wantNoTree(t, over(kind))
		wantNoTree(t, over(kind, a))
		wantNoTree(t, over(kind, over(other, a, a)))
		for n := 2; n <= 10; n++ {
			wantCondition(t, over(kind, times(n, a)...))
			for at := range n {
				mixed := times(n, a)
				mixed[at] = over(kind, a, a)
				wantNoTree(t, over(kind, mixed...))
				wantNoTree(t, not(over(kind, mixed...)))
				mixed[at] = over(other, a, a)
				wantCondition(t, over(kind, mixed...))
				mixed[at] = not(over(kind, a, a))
				wantCondition(t, over(kind, mixed...))
				mixed[at] = over(other, a, over(kind, a, a))
				wantCondition(t, over(kind, mixed...))
				mixed[at] = over(other, a, over(other, a, a))
				wantNoTree(t, over(kind, mixed...))
			}
		}
	}
	wantNoTree(t, nodes{{Kind: api.NodeNot}})
	wantNoTree(t, append(nodes{{Kind: api.NodeNot}}, a...))
	wantNoTree(t, over(api.NodeNot, a, a))
	wantNoTree(t, over(api.NodeNot, a, a, a))
	for _, x := range everyTest() {
		for n := 1; n < 4; n++ {
			with := over(0, times(n, a)...)
			with[0] = x[0]
			with[0].Kids = n
			wantNoTree(t, with)
			wantNoTree(t, not(with))
		}
	}
}

// P13.2: Kids that are no number of kids at all.
func TestCheckKidsBeyond(t *testing.T) {
	for _, list := range append(everyTest(), not(buyer("a")), or(buyer("a"), line("b")), and(buyer("a"), line("b"), not(line("c")))) {
		for at := range list {
			for _, n := range []int{-1, -2, math.MinInt, math.MaxInt, math.MaxInt32, 1 << 32, 1<<32 + 1, 1<<32 + 2, 63, 64, 65} {
				wrong := slices.Clone(list)
				wrong[at].Kids = n
				wantNoTree(t, wrong)
			}
		}
	}
}

// P13.2: lists that are no tree, as something is left out or stands behind; and
// more than one tree.
func TestCheckLists(t *testing.T) {
	for _, list := range append(everyTest(), not(buyer("a")), nots(5, line("b")), or(buyer("a"), line("b")), and(or(buyer("a"), not(line("b"))), amount(api.OpBelow, 5, 0), not(and(buyer("c"), buyer("d"))))) {
		wantCondition(t, list)
		for cut := 1; cut < len(list); cut++ {
			wantNoTree(t, list[:cut])
		}
		for _, more := range append(everyTest(), not(buyer("a")), or(buyer("a"), buyer("b")), list, nodes{{}}, nodes{{Kind: api.NodeNot, Kids: 1}}) {
			wantNoTree(t, slices.Concat(list, more))
			wantNoTree(t, slices.Concat(more, list, list))
		}
	}
}

// P13.2: each field of each kind that the table asks to be empty or zero.
func TestCheckFields(t *testing.T) {
	for _, list := range append(everyTest(), not(buyer("a")), or(buyer("a"), line("b")), and(buyer("a"), line("b"))) {
		n := list[0]
		named := n.Kind == api.NodeBuyer || n.Kind == api.NodeLine
		valued := n.Kind == api.NodeAmount || n.Kind == api.NodeQuantity
		set := func(turn func(n *api.Node)) {
			t.Helper()
			wrong := slices.Clone(list)
			turn(&wrong[0])
			wantNoTree(t, wrong)
			wantNoTree(t, not(wrong))
		}
		for _, name := range []string{"a", "x", "tax", " ", "\x00", "A"} {
			if !named {
				set(func(n *api.Node) { n.Name = name })
			}
		}
		for _, op := range []api.Op{-1, 1, 2, 3, 4, 5, math.MinInt, math.MaxInt} {
			if !valued {
				set(func(n *api.Node) { n.Op = op })
			}
		}
		for _, d := range []api.Dec{{Units: 1}, {Units: -1}, {Places: 1}, {Places: -1}, {Units: 5, Places: 1}, {Units: math.MinInt64}, {Places: math.MaxInt}} {
			if !valued {
				set(func(n *api.Node) { n.Value = d })
			}
		}
		if named {
			set(func(n *api.Node) { n.Name = "" })
		}
		if valued {
			set(func(n *api.Node) { n.Op = 0 })
		}
	}
}

// P13.2: a name must be a word.
func TestCheckNames(t *testing.T) {
	for _, test := range []func(string) nodes{buyer, line} {
		for _, name := range noWords() {
			wantNoTree(t, test(name))
			wantNoTree(t, and(test("a"), not(test(name))))
			wantNoTree(t, or(test(name), test("a")))
		}
		for _, name := range []string{"a", "z", "vat", "a_1", "a__", "ands", "in1", "lines", strings.Repeat("a", api.MaxName)} {
			wantCondition(t, test(name))
			wantCondition(t, and(test("a"), not(test(name))))
		}
	}
}

// P13.2: each Op that may be and those that may not; values that may be and not
// below 0.
func TestCheckNumbers(t *testing.T) {
	for _, test := range []func(api.Op, int64, int) nodes{amount, quantity} {
		for op := api.OpBelow; op <= api.OpLeast; op++ {
			for _, d := range []api.Dec{{}, {Units: 1}, {Units: 10}, {Units: 1, Places: 9}, {Units: 125, Places: 1}, {Units: math.MaxInt64}, {Units: math.MaxInt64, Places: 9}} {
				wantCondition(t, test(op, d.Units, d.Places))
			}
			for _, d := range []api.Dec{{Units: -1}, {Units: math.MinInt64}, {Units: -1, Places: 1}, {Units: -1, Places: 9}, {Units: 10, Places: 1}, {Units: 0, Places: 1}, {Units: 0, Places: 9}, {Units: 120, Places: 2}, {Units: 1, Places: 10}, {Units: 1, Places: -1}, {Units: 0, Places: -1}, {Units: 1, Places: math.MaxInt}, {Units: 1, Places: math.MinInt}} {
				wantNoTree(t, test(op, d.Units, d.Places))
				wantNoTree(t, or(buyer("a"), test(op, d.Units, d.Places)))
			}
		}
		for _, op := range []api.Op{0, -1, 5, 6, math.MinInt, math.MaxInt} {
			wantNoTree(t, test(op, 1, 0))
			wantNoTree(t, test(op, 0, 0))
			wantNoTree(t, not(test(op, 1, 0)))
		}
	}
}

// P13.2: MaxNodes nodes, in wide and in deep trees; one more, and many more.
func TestCheckLong(t *testing.T) {
	a := buyer("a")
	for _, kind := range []api.NodeKind{api.NodeOr, api.NodeAnd} {
		wantCondition(t, over(kind, times(62, a)...))
		wantCondition(t, over(kind, times(63, a)...))
		wantNoTree(t, over(kind, times(64, a)...))
		wantCondition(t, not(over(kind, times(62, a)...)))
		wantNoTree(t, not(over(kind, times(63, a)...)))
		other := api.NodeOr + api.NodeAnd - kind
		wantCondition(t, over(kind, times(21, over(other, a, a))...))
		wantNoTree(t, over(kind, append(times(21, over(other, a, a)), a)...))
		wantCondition(t, over(kind, times(9, over(other, a, not(a), not(not(a))))...))
		for _, n := range []int{65, 66, 127, 128, 129, 1000, 1 << 16} {
			wantNoTree(t, over(kind, times(n, a)...))
		}
	}
	wantNoTree(t, nots(64, a))
	wantNoTree(t, nots(1<<10, a))
	wantNoTree(t, slices.Concat(times(1<<20, a)...))
	wantNoTree(t, slices.Repeat(nodes{{Kind: api.NodeNot, Kids: 1}}, 1<<20))
	wantNoTree(t, make(nodes, 65))
}

// P13.2: MaxDeep deep, on the left and on the right, by each kind; one deeper.
func TestCheckDeep(t *testing.T) {
	a := buyer("a")
	for _, x := range everyTest() {
		for n := range 40 {
			if list := nots(n, x); n < 16 {
				wantCondition(t, list)
			} else {
				wantNoTree(t, list)
			}
		}
	}
	left, right, both := a, a, a
	for n := 2; n <= 30; n++ {
		kind := api.NodeOr + api.NodeKind(n%2)
		left, right, both = over(kind, left, a), over(kind, a, a, right), over(kind, a, not(both))
		if n <= 16 {
			wantCondition(t, left)
			wantCondition(t, right)
		} else {
			wantNoTree(t, left)
			wantNoTree(t, right)
		}
		if 2*n-1 <= 16 {
			wantCondition(t, both)
		} else {
			wantNoTree(t, both)
		}
	}
	wantCondition(t, or(nots(14, a), a, nots(14, a)))
	wantNoTree(t, or(nots(14, a), a, nots(15, a)))
	wantNoTree(t, or(nots(15, a), a))
	wantCondition(t, or(nots(14, a), nots(14, a), nots(14, a), nots(14, a)))
}

// P13.2: all short lists out of nodes that may be and some that may not.
func TestCheckAllShortLists(t *testing.T) {
	t.Parallel()
	good, bad := 0, 0
	want := func(list nodes) {
		err := slowCheck(list)
		if traits.Check(list) != err {
			t.Errorf("Check(%v) is not %d", list, err)
		}
		if err == api.OK {
			good++
		} else {
			bad++
		}
	}
	named := kids(api.NodeNot, 1)
	named.Name = "a"
	lists(nodes{kids(api.NodeOr, 1), kids(api.NodeOr, 2), kids(api.NodeOr, 3), kids(api.NodeAnd, 0), kids(api.NodeAnd, 2), kids(api.NodeAnd, 3), kids(api.NodeNot, 0), kids(api.NodeNot, 1), kids(api.NodeNot, 2), named, buyer("a")[0], amount(api.OpMost, 5, 0)[0], kids(api.NodeLine, 0), {}}, 5, want)
	lists(nodes{kids(api.NodeOr, 2), kids(api.NodeAnd, 2), kids(api.NodeAnd, 3), kids(api.NodeNot, 1), line("b")[0]}, 8, want)
	if good < 1000 || bad < 100000 {
		t.Errorf("%d conditions, %d others", good, bad)
	}
}

// P13.2: great conditions, and each with a node changed, left out, twice, or
// moved to another place.
func TestCheckGreat(t *testing.T) {
	t.Parallel()
	x := mixed(5)
	want := func(list nodes) {
		t.Helper()
		if err := slowCheck(list); traits.Check(list) != err {
			t.Errorf("Check(%v) is not %d", list, err)
		}
	}
	for _, list := range greatConditions(400) {
		wantCondition(t, list)
		for at := range list {
			other := slices.Clone(list)
			other[at] = x.test()
			want(other)
			other[at] = kids(api.NodeKind(x.below(9)), x.below(4))
			want(other)
			want(slices.Delete(slices.Clone(list), at, at+1))
			want(slices.Insert(slices.Clone(list), at, list[at]))
			other = slices.Clone(list)
			to := x.below(len(list))
			other[at], other[to] = other[to], other[at]
			want(other)
		}
	}
}
