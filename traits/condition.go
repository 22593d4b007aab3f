package traits

import (
	"slices"

	"tollbook/api"
	"tollbook/decimal"
	"tollbook/rat"
	"tollbook/tokens"
)

func Check(nodes []api.Node) api.Errno {
	if len(nodes) == 0 {
		return api.OK
	}
	if len(nodes) > api.MaxNodes {
		return api.ErrTree
	}
	at := 0
	// passes goes over the tree that begins at that place, a kid of a node of the
	// kind over.
	var passes func(over api.NodeKind, deep int) bool
	passes = func(over api.NodeKind, deep int) bool {
		if at == len(nodes) || deep > api.MaxDeep {
			return false
		}
		n := nodes[at]
		at++
		if !mayBe(n) || n.Kind == over && n.Kind != api.NodeNot {
			return false
		}
		for range n.Kids {
			if !passes(n.Kind, deep+1) {
				return false
			}
		}
		return true
	}
	if !passes(0, 1) || at < len(nodes) {
		return api.ErrTree
	}
	return api.OK
}

// mayBe tells it of a node by itself. Each kind names the fields that it has:
// one that has more is not the same node without them.
func mayBe(n api.Node) bool {
	switch n.Kind {
	case api.NodeOr, api.NodeAnd:
		return n == api.Node{Kind: n.Kind, Kids: n.Kids} && n.Kids >= 2
	case api.NodeNot:
		return n == api.Node{Kind: n.Kind, Kids: 1}
	case api.NodeBuyer, api.NodeLine:
		return n == api.Node{Kind: n.Kind, Name: n.Name} && tokens.Word(n.Name)
	case api.NodeAmount, api.NodeQuantity:
		return n == api.Node{Kind: n.Kind, Op: n.Op, Value: n.Value} && isOp(n.Op) && isValue(n.Value)
	}
	return false
}

func isOp(op api.Op) bool {
	return api.OpBelow <= op && op <= api.OpLeast
}

func isValue(d api.Dec) bool {
	return decimal.Check(d) == api.OK && d.Units >= 0
}

func Holds(nodes []api.Node, f api.Facts) (bool, api.Errno) {
	if err := Check(nodes); err != api.OK {
		return false, err
	}
	if err := Fit(f); err != api.OK {
		return false, err
	}
	if len(nodes) == 0 {
		return true, api.OK
	}
	amount, quantity := worth(f.Amount, f.Digits), worth(f.Quantity, 0)
	return fold(nodes, func(n api.Node, kids []bool) bool {
		switch n.Kind {
		case api.NodeOr:
			return slices.Contains(kids, true)
		case api.NodeAnd:
			return !slices.Contains(kids, false)
		case api.NodeNot:
			return !kids[0]
		case api.NodeBuyer:
			return slices.Contains(f.Buyer, n.Name)
		case api.NodeLine:
			return slices.Contains(f.Line, n.Name)
		case api.NodeAmount:
			return isSo(amount, n.Op, n.Value)
		}
		return isSo(quantity, n.Op, n.Value)
	}), api.OK
}

func Names(nodes []api.Node) ([]string, []string, api.Errno) {
	if err := Check(nodes); err != api.OK {
		return nil, nil, err
	}
	return named(nodes, api.NodeBuyer), named(nodes, api.NodeLine), api.OK
}

func named(nodes []api.Node, kind api.NodeKind) []string {
	var names []string
	for _, n := range nodes {
		if n.Kind == kind {
			names = append(names, n.Name)
		}
	}
	slices.Sort(names)
	return slices.Compact(names)
}

// fold goes through a condition that has nodes; join says what a node comes to,
// told what each of its kids came to.
func fold[T any](nodes []api.Node, join func(n api.Node, kids []T) T) T {
	at := 0
	var down func() T
	down = func() T {
		n := nodes[at]
		at++
		var kids []T
		for range n.Kids {
			kids = append(kids, down())
		}
		return join(n, kids)
	}
	return down()
}

// worth has no errors to tell: digits are no more than a decimal's places.
func worth(units int64, digits int) rat.Rat {
	d, _ := decimal.Make(units, digits)
	r, _ := decimal.Rat(d)
	return r
}

// isSo holds a number against a value that may be.
func isSo(number rat.Rat, op api.Op, value api.Dec) bool {
	bound, _ := decimal.Rat(value)
	order := rat.Compare(number, bound)
	switch op {
	case api.OpBelow:
		return order < 0
	case api.OpMost:
		return order <= 0
	case api.OpAbove:
		return order > 0
	}
	return order >= 0
}
