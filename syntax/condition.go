package syntax

import (
	"tollbook/api"
)

func (r *reader) or() []api.Node {
	return r.joined(api.NodeOr, orWord, r.and)
}

func (r *reader) and() []api.Node {
	return r.joined(api.NodeAnd, andWord, r.not)
}

// joined reads one kid or more with the word between; one alone is not joined
// to anything.
func (r *reader) joined(kind api.NodeKind, word string, read func() []api.Node) []api.Node {
	kids := [][]api.Node{read()}
	for r.take(word) {
		kids = append(kids, read())
	}
	if len(kids) == 1 {
		return kids[0]
	}
	return gather(kind, kids)
}

// gather makes a node of its kids; one of the same kind, which stood in ( ),
// gives its own in its place.
func gather(kind api.NodeKind, kids [][]api.Node) []api.Node {
	tree := []api.Node{{Kind: kind}}
	for _, kid := range kids {
		if kid[0].Kind == kind {
			tree[0].Kids += kid[0].Kids
			kid = kid[1:]
		} else {
			tree[0].Kids++
		}
		tree = append(tree, kid...)
	}
	return tree
}

func (r *reader) not() []api.Node {
	switch r.now().Text {
	case notWord:
		r.enter()
		kid := r.not()
		r.open--
		return append([]api.Node{{Kind: api.NodeNot, Kids: 1}}, kid...)
	case openMark:
		r.enter()
		tree := r.or()
		r.must(closeMark)
		r.open--
		return tree
	}
	return []api.Node{r.test()}
}

// enter reads a "not" or a "(", which is open then.
func (r *reader) enter() {
	if r.open == api.MaxDeep {
		refuse(r.now(), api.ErrSyntax)
	}
	r.at++
	r.open++
}

func (r *reader) test() api.Node {
	n := api.Node{Kind: api.NodeBuyer + api.NodeKind(r.choice(testWords()))}
	if n.Kind == api.NodeBuyer || n.Kind == api.NodeLine {
		n.Name = r.name()
		return n
	}
	n.Op = api.OpBelow + api.Op(r.choice(opMarks()))
	n.Value = r.number()
	return n
}
