package traits

import (
	"tollbook/api"
)

// forms are a tree's plain form and that of its Not, made at one time: a Not
// further up, which may take either, need not go down again.
type forms struct {
	yes []api.Node
	no  []api.Node
}

func Plain(nodes []api.Node) ([]api.Node, api.Errno) {
	if err := Check(nodes); err != api.OK {
		return nil, err
	}
	if len(nodes) == 0 {
		return nil, api.OK
	}
	plain := fold(nodes, bothForms).yes
	if len(plain) > api.MaxNodes {
		return nil, api.ErrLong
	}
	return plain, api.OK
}

func bothForms(n api.Node, kids []forms) forms {
	switch n.Kind {
	case api.NodeOr:
		return forms{gather(api.NodeOr, kids, asIs), gather(api.NodeAnd, kids, turned)}
	case api.NodeAnd:
		return forms{gather(api.NodeAnd, kids, asIs), gather(api.NodeOr, kids, turned)}
	case api.NodeNot:
		return forms{kids[0].no, kids[0].yes}
	case api.NodeBuyer, api.NodeLine:
		return forms{[]api.Node{n}, []api.Node{{Kind: api.NodeNot, Kids: 1}, n}}
	}
	other := n
	other.Op = opposite(n.Op)
	return forms{[]api.Node{n}, []api.Node{other}}
}

func asIs(kid forms) []api.Node   { return kid.yes }
func turned(kid forms) []api.Node { return kid.no }

// gather makes a node of that kind of one form of each kid; a kid of the same
// kind gives its kids in its place.
func gather(kind api.NodeKind, kids []forms, form func(kid forms) []api.Node) []api.Node {
	out := []api.Node{{Kind: kind}}
	for _, kid := range kids {
		tree := form(kid)
		if tree[0].Kind == kind {
			out[0].Kids += tree[0].Kids
			out = append(out, tree[1:]...)
		} else {
			out[0].Kids++
			out = append(out, tree...)
		}
	}
	return out
}

func opposite(op api.Op) api.Op {
	switch op {
	case api.OpBelow:
		return api.OpLeast
	case api.OpMost:
		return api.OpAbove
	case api.OpAbove:
		return api.OpMost
	}
	return api.OpBelow
}
