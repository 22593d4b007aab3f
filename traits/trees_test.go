package traits_test

// What the tests hold the package against: a list read from its right end with a
// stack, trees rewritten rule by rule until none is left, numbers of the
// library's own, with nothing of the package in it.

import (
	"math/big"
	"slices"
	"testing"

	"tollbook/api"
	"tollbook/tokens"
)

type nodes = []api.Node

func buyer(name string) nodes { return nodes{{Kind: api.NodeBuyer, Name: name}} }
func line(name string) nodes  { return nodes{{Kind: api.NodeLine, Name: name}} }

func amount(op api.Op, units int64, places int) nodes {
	return nodes{{Kind: api.NodeAmount, Op: op, Value: api.Dec{Units: units, Places: places}}}
}

func quantity(op api.Op, units int64, places int) nodes {
	return nodes{{Kind: api.NodeQuantity, Op: op, Value: api.Dec{Units: units, Places: places}}}
}

func over(kind api.NodeKind, kids ...nodes) nodes {
	return append(nodes{{Kind: kind, Kids: len(kids)}}, slices.Concat(kids...)...)
}

func or(kids ...nodes) nodes  { return over(api.NodeOr, kids...) }
func and(kids ...nodes) nodes { return over(api.NodeAnd, kids...) }
func not(kid nodes) nodes     { return over(api.NodeNot, kid) }

// nots puts so many in one another.
func nots(n int, kid nodes) nodes {
	for range n {
		kid = not(kid)
	}
	return kid
}

func times(n int, kid nodes) []nodes {
	return slices.Repeat([]nodes{kid}, n)
}

type tree struct {
	node api.Node
	kids []tree
}

// trees are those that stand in a list one behind the other, and whether it has
// no kid too few.
func trees(list nodes) ([]tree, bool) {
	var stack []tree // the first one on top
	for _, n := range slices.Backward(list) {
		if n.Kids < 0 || n.Kids > len(stack) {
			return nil, false
		}
		rest := len(stack) - n.Kids
		kids := slices.Clone(stack[rest:])
		slices.Reverse(kids)
		stack = append(stack[:rest], tree{n, kids})
	}
	slices.Reverse(stack)
	return stack, true
}

func (t tree) list() nodes {
	n := t.node
	n.Kids = len(t.kids)
	list := nodes{n}
	for _, k := range t.kids {
		list = append(list, k.list()...)
	}
	return list
}

func (t tree) deep() int {
	most := 0
	for _, k := range t.kids {
		most = max(most, k.deep())
	}
	return 1 + most
}

// rows are the chapter's table.
var rows = map[api.NodeKind]struct {
	least, most   int
	named, valued bool
}{
	api.NodeOr:       {2, 1 << 30, false, false},
	api.NodeAnd:      {2, 1 << 30, false, false},
	api.NodeNot:      {1, 1, false, false},
	api.NodeBuyer:    {0, 0, true, false},
	api.NodeLine:     {0, 0, true, false},
	api.NodeAmount:   {0, 0, false, true},
	api.NodeQuantity: {0, 0, false, true},
}

// inTable asks the table of a node, of its kids' kinds, and of all below.
func (t tree) inTable() bool {
	n := t.node
	row, known := rows[n.Kind]
	ok := known && row.least <= n.Kids && n.Kids <= row.most
	if row.named {
		ok = ok && tokens.Word(n.Name)
	} else {
		ok = ok && n.Name == ""
	}
	if row.valued {
		ops := []api.Op{api.OpBelow, api.OpMost, api.OpAbove, api.OpLeast}
		ok = ok && slices.Contains(ops, n.Op) && n.Value.Units >= 0 && 0 <= n.Value.Places && n.Value.Places <= 9 && (n.Value.Places == 0 || n.Value.Units%10 != 0)
	} else {
		ok = ok && n.Op == 0 && n.Value.Units == 0 && n.Value.Places == 0
	}
	for _, k := range t.kids {
		ok = ok && k.inTable()
		ok = ok && !(n.Kind == api.NodeOr && k.node.Kind == api.NodeOr) && !(n.Kind == api.NodeAnd && k.node.Kind == api.NodeAnd)
	}
	return ok
}

func slowCheck(list nodes) api.Errno {
	if len(list) == 0 {
		return api.OK
	}
	all, ok := trees(list)
	if !ok || len(all) != 1 || len(list) > 64 || !all[0].inTable() || all[0].deep() > 16 {
		return api.ErrTree
	}
	return api.OK
}

// only is the tree of a list that is one.
func only(t *testing.T, list nodes) tree {
	t.Helper()
	all, ok := trees(list)
	if !ok || len(all) != 1 {
		t.Fatalf("%v is no tree", list)
	}
	return all[0]
}

func ten(power int) *big.Int {
	return new(big.Int).Exp(big.NewInt(10), big.NewInt(int64(power)), nil)
}

func fraction(units int64, places int) *big.Rat {
	return new(big.Rat).SetFrac(big.NewInt(units), ten(places))
}

func slowNumber(number *big.Rat, n api.Node) bool {
	order := number.Cmp(fraction(n.Value.Units, n.Value.Places))
	return order < 0 && n.Op == api.OpBelow || order <= 0 && n.Op == api.OpMost || order > 0 && n.Op == api.OpAbove || order >= 0 && n.Op == api.OpLeast
}

func (t tree) holds(f api.Facts) bool {
	switch t.node.Kind {
	case api.NodeOr:
		return slices.ContainsFunc(t.kids, func(k tree) bool { return k.holds(f) })
	case api.NodeAnd:
		return !slices.ContainsFunc(t.kids, func(k tree) bool { return !k.holds(f) })
	case api.NodeNot:
		return !t.kids[0].holds(f)
	case api.NodeBuyer:
		return slices.Contains(f.Buyer, t.node.Name)
	case api.NodeLine:
		return slices.Contains(f.Line, t.node.Name)
	case api.NodeAmount:
		return slowNumber(fraction(f.Amount, f.Digits), t.node)
	default:
		return slowNumber(fraction(f.Quantity, 0), t.node)
	}
}

// turns has an operator and its opposite at each place.
var turns = [][2]api.Op{{api.OpBelow, api.OpLeast}, {api.OpLeast, api.OpBelow}, {api.OpMost, api.OpAbove}, {api.OpAbove, api.OpMost}}

// turn is one rule of P13.4 for a Not, if one goes.
func (t tree) turn() (tree, bool) {
	if t.node.Kind != api.NodeNot {
		return t, false
	}
	kid := t.kids[0]
	other := tree{node: kid.node}
	switch kid.node.Kind {
	case api.NodeNot:
		return kid.kids[0], true
	case api.NodeOr:
		other.node.Kind = api.NodeAnd
	case api.NodeAnd:
		other.node.Kind = api.NodeOr
	case api.NodeAmount, api.NodeQuantity:
		for _, pair := range turns {
			if pair[0] == kid.node.Op {
				other.node.Op = pair[1]
			}
		}
		return other, true
	default:
		return t, false
	}
	for _, k := range kid.kids {
		other.kids = append(other.kids, tree{api.Node{Kind: api.NodeNot, Kids: 1}, []tree{k}})
	}
	return other, true
}

// give is the other rule: the first kid that is an Or in an Or, an And in an And
// gives its kids.
func (t tree) give() (tree, bool) {
	for i, k := range t.kids {
		if k.node.Kind == t.node.Kind && t.node.Kind != api.NodeNot {
			t.kids = slices.Concat(t.kids[:i], k.kids, t.kids[i+1:])
			return t, true
		}
	}
	return t, false
}

// step is one rule at the first place at which one goes.
func (t tree) step() (tree, bool) {
	if other, ok := t.turn(); ok {
		return other, true
	}
	if other, ok := t.give(); ok {
		return other, true
	}
	for i, k := range t.kids {
		if other, ok := k.step(); ok {
			t.kids = slices.Clone(t.kids)
			t.kids[i] = other
			return t, true
		}
	}
	return t, false
}

func (t tree) plain() tree {
	for goes := true; goes; {
		t, goes = t.step()
	}
	return t
}

// slowPlain is for a condition.
func slowPlain(t *testing.T, list nodes) (nodes, api.Errno) {
	t.Helper()
	if len(list) == 0 {
		return nil, api.OK
	}
	plain := only(t, list).plain().list()
	if len(plain) > 64 {
		return nil, api.ErrLong
	}
	return plain, api.OK
}

// lists tells all lists of at most so many nodes out of a few.
func lists(few nodes, most int, tell func(list nodes)) {
	var longer func(list nodes)
	longer = func(list nodes) {
		tell(list)
		for _, n := range few {
			if len(list) < most {
				longer(append(list, n))
			}
		}
	}
	longer(make(nodes, 0, most))
}

func kids(kind api.NodeKind, n int) api.Node {
	return api.Node{Kind: kind, Kids: n}
}

// smallConditions are all of at most seven nodes out of a few, and some more.
func smallConditions() []nodes {
	var all []nodes
	gather := func(list nodes) {
		if slowCheck(list) == api.OK {
			all = append(all, slices.Clone(list))
		}
	}
	a, b, few, many := buyer("a")[0], line("b")[0], amount(api.OpBelow, 5, 0)[0], quantity(api.OpLeast, 25, 1)[0]
	lists(nodes{kids(api.NodeOr, 2), kids(api.NodeAnd, 2), kids(api.NodeNot, 1), a, few}, 7, gather)
	lists(nodes{kids(api.NodeOr, 2), kids(api.NodeOr, 3), kids(api.NodeAnd, 2), kids(api.NodeNot, 1), a, b, few, many}, 5, gather)
	return all
}

// greatConditions are of up to MaxNodes nodes, up to MaxDeep deep.
func greatConditions(n int) []nodes {
	x := mixed(13)
	var all []nodes
	for len(all) < n {
		room := 1 + x.below(api.MaxNodes)
		list := x.tree(&room, 0, 1+x.below(api.MaxDeep)).list()
		if slowCheck(list) == api.OK {
			all = append(all, list)
		}
	}
	return all
}

// someFacts have each choice of the traits a, b and c, and amounts and
// quantities on both sides of what the conditions here ask.
func someFacts() []api.Facts {
	var all []api.Facts
	choices := [][]string{nil, {"a"}, {"b"}, {"c"}, {"a", "b"}, {"a", "c"}, {"b", "c"}, {"a", "b", "c"}}
	for i, buyers := range choices {
		for j, lines := range choices {
			for k, digits := range []int{0, 1, 2} {
				units := []int64{0, 2, 3, 4, 5, 6, 49, 50, 51, 249, 250, 499, 500, 501}
				at := i + 3*j + 5*k
				all = append(all, api.Facts{Buyer: buyers, Line: lines, Amount: units[at%len(units)], Digits: digits, Quantity: int64(at % 5)})
			}
		}
	}
	return all
}

// mixed tells numbers without an order, the same ones in every run.
type mixed uint64

func (x *mixed) next() uint64 {
	*x += 0x9e3779b97f4a7c15
	z := uint64(*x)
	z = (z ^ z>>30) * 0xbf58476d1ce4e5b9
	z = (z ^ z>>27) * 0x94d049bb133111eb
	return z ^ z>>31
}

func (x *mixed) below(n int) int {
	return int(x.next() % uint64(n))
}

func (x *mixed) test() api.Node {
	op, units := api.Op(1+x.below(4)), []api.Dec{{}, {Units: 5}, {Units: 25, Places: 1}, {Units: 499, Places: 2}, {Units: 3}}
	value := units[x.below(len(units))]
	switch name := string("abc"[x.below(3)]); x.below(4) {
	case 0:
		return api.Node{Kind: api.NodeBuyer, Name: name}
	case 1:
		return api.Node{Kind: api.NodeLine, Name: name}
	case 2:
		return api.Node{Kind: api.NodeAmount, Op: op, Value: value}
	default:
		return api.Node{Kind: api.NodeQuantity, Op: op, Value: value}
	}
}

// tree has none of the kind over as its first node, unless that is a Not, and
// takes what nodes it has out of the room (or a few more).
func (x *mixed) tree(room *int, over api.NodeKind, deep int) tree {
	*room--
	kind := api.NodeKind(1 + x.below(3))
	if kind == over && kind != api.NodeNot {
		kind = api.NodeOr + api.NodeAnd - kind
	}
	if *room < 2 || deep < 2 || x.below(8) == 0 {
		return tree{node: x.test()}
	}
	t := tree{node: api.Node{Kind: kind}}
	wanted := 1
	if kind != api.NodeNot {
		wanted = 2 + x.below(4)
	}
	for range wanted {
		t.kids = append(t.kids, x.tree(room, kind, deep-1))
	}
	t.node.Kids = wanted
	return t
}

// The slow ways are themselves held against what anyone knows.
func TestSlow(t *testing.T) {
	list := and(buyer("a"), not(line("b")), or(line("c"), amount(api.OpBelow, 5, 0)))
	one := only(t, list)
	if len(one.kids) != 3 || one.kids[1].kids[0].node != line("b")[0] || one.kids[2].kids[1].node.Kind != api.NodeAmount || one.deep() != 3 || !slices.Equal(one.list(), list) {
		t.Errorf("the slow tree is %v", one)
	}
	if all, ok := trees(append(buyer("a"), not(buyer("b"))...)); !ok || len(all) != 2 || all[0].node.Name != "a" {
		t.Errorf("two slow trees are %v", all)
	}
	if _, ok := trees(nodes{kids(api.NodeOr, 2), kids(api.NodeBuyer, 0)}); ok {
		t.Error("a slow tree with a kid too few")
	}
	for want, all := range map[api.Errno][]nodes{
		api.OK:      {nil, buyer("a"), list, nots(15, buyer("a")), or(times(63, buyer("a"))...)},
		api.ErrTree: {or(), or(buyer("a")), or(buyer("a"), or(buyer("b"), buyer("c"))), buyer("A"), amount(5, 1, 0), amount(1, 10, 1), nots(16, buyer("a")), or(times(64, buyer("a"))...), append(buyer("a"), buyer("b")...)},
	} {
		for _, list := range all {
			if err := slowCheck(list); err != want {
				t.Errorf("the slow Check(%v) is %d", list, err)
			}
		}
	}
	f := api.Facts{Buyer: []string{"a"}, Amount: 1250, Digits: 2}
	if only(t, list).holds(f) || !only(t, and(buyer("a"), not(line("b")), or(line("c"), amount(api.OpMost, 125, 1)))).holds(f) {
		t.Error("the slow ways to hold")
	}
	if p, _ := slowPlain(t, not(and(buyer("a"), amount(api.OpBelow, 5, 0), not(or(line("b"), not(line("c"))))))); !slices.Equal(p, or(not(buyer("a")), amount(api.OpLeast, 5, 0), line("b"), not(line("c")))) {
		t.Errorf("the slow plain form is %v", p)
	}
	small, great := smallConditions(), greatConditions(500)
	deepest, longest := 0, 0
	for _, list := range great {
		deepest, longest = max(deepest, only(t, list).deep()), max(longest, len(list))
	}
	if len(small) < 1000 || deepest != api.MaxDeep || longest < 60 {
		t.Errorf("%d small conditions, great ones of %d nodes, %d deep", len(small), longest, deepest)
	}
}
