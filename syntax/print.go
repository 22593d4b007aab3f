package syntax

import (
	"strconv"

	"tollbook/api"
	"tollbook/calendar"
	"tollbook/decimal"
)

// writer puts tokens one behind the other. All that is told may be, so the
// layers below refuse none of it.
type writer struct {
	text []byte
	// parted is whether a blank belongs ahead of the next token.
	parted bool
}

func (w *writer) put(texts ...string) {
	for _, text := range texts {
		if w.parted && !isClose(text) {
			w.text = append(w.text, ' ')
		}
		w.text = append(w.text, text...)
		w.parted = text != openMark
	}
}

func isClose(text string) bool {
	return text == endMark || text == nextMark || text == percentMark || text == closeMark
}

func (w *writer) endLine() {
	w.text = append(w.text, lineEnd)
	w.parted = false
}

func tellCurrency(w *writer, d api.Decl) {
	w.put(d.Name, strconv.Itoa(d.Digits))
}

func tellPlace(w *writer, d api.Decl) {
	w.put(d.Name)
	w.option(inWord, d.In)
	w.option(moneyWord, d.Money)
}

func tellTax(w *writer, d api.Decl) {
	w.put(d.Name, inWord, d.In, roundWord)
	w.put(policyWords()[d.Policy-api.ByLine], modeWords()[d.Mode-api.ModeFloor])
	w.names(onWord, d.On)
	w.names(insteadWord, d.Instead)
}

func tellRate(w *writer, d api.Decl) {
	w.put(d.Name)
	w.option(forWord, d.Class)
	w.span(d.Span)
	for i, b := range d.Brackets {
		if i > 0 {
			w.put(nextMark)
		}
		w.put(number(b.Percent), percentMark)
		if i > 0 {
			w.put(aboveWord, number(b.Above))
		}
	}
}

func tellExempt(w *writer, d api.Decl) {
	w.put(d.Name)
	w.option(forWord, d.Class)
	w.span(d.Span)
	if len(d.When) > 0 {
		w.put(whenWord)
		w.tree(d.When, 0)
	}
}

func tellLeast(w *writer, d api.Decl) {
	w.put(d.Name)
	w.span(d.Span)
	w.put(number(d.Least))
}

func (w *writer) option(word, text string) {
	if text != "" {
		w.put(word, text)
	}
}

func (w *writer) names(word string, list []string) {
	for i, name := range list {
		if i > 0 {
			word = nextMark
		}
		w.put(word, name)
	}
}

func (w *writer) span(s api.Span) {
	if s.From > 0 {
		w.put(fromWord, date(s.From))
	}
	if s.To < behind {
		w.put(toWord, date(s.To))
	}
}

// tree tells the tree with which nodes begin, a kid of a node of the kind over,
// and hands back the nodes behind it.
func (w *writer) tree(nodes []api.Node, over api.NodeKind) []api.Node {
	n, rest := nodes[0], nodes[1:]
	switch n.Kind {
	case api.NodeOr:
		return w.joined(n, orWord, rest, over)
	case api.NodeAnd:
		return w.joined(n, andWord, rest, over)
	case api.NodeNot:
		w.put(notWord)
		return w.tree(rest, n.Kind)
	}
	w.put(testWords()[n.Kind-api.NodeBuyer])
	if n.Kind == api.NodeBuyer || n.Kind == api.NodeLine {
		w.put(n.Name)
	} else {
		w.put(opMarks()[n.Op-api.OpBelow], number(n.Value))
	}
	return rest
}

// joined tells an Or or an And whose kids stand at the beginning of rest. No
// condition has an And in an And: what stands below one and has kids is an Or
// (or a Not, which needs no marks).
func (w *writer) joined(n api.Node, word string, rest []api.Node, over api.NodeKind) []api.Node {
	marked := over == api.NodeAnd || over == api.NodeNot
	if marked {
		w.put(openMark)
	}
	for i := range n.Kids {
		if i > 0 {
			w.put(word)
		}
		rest = w.tree(rest, n.Kind)
	}
	if marked {
		w.put(closeMark)
	}
	return rest
}

func number(d api.Dec) string {
	text, _ := decimal.Text(d)
	return text
}

func date(d api.Date) string {
	text, _ := calendar.Text(d)
	return text
}
