package syntax

import (
	"tollbook/api"
)

// The words and marks that stand in more than one place of the package.
const (
	inWord      = "in"
	moneyWord   = "money"
	roundWord   = "round"
	onWord      = "on"
	insteadWord = "instead"
	forWord     = "for"
	fromWord    = "from"
	toWord      = "to"
	whenWord    = "when"
	aboveWord   = "above"
	orWord      = "or"
	andWord     = "and"
	notWord     = "not"
	endMark     = ";"
	nextMark    = ","
	percentMark = "%"
	openMark    = "("
	closeMark   = ")"
)

// kind is a kind of declaration. What is read and what is told are kept side by
// side, in the order of the grammar, without the first word and the end.
type kind struct {
	kind api.DeclKind
	word string
	read func(r *reader, d *api.Decl)
	tell func(w *writer, d api.Decl)
	// bare is the declaration with the fields that its kind has, and no others.
	bare func(d api.Decl) api.Decl
}

func kinds() []kind {
	return []kind{
		{api.DeclCurrency, "currency", readCurrency, tellCurrency, func(d api.Decl) api.Decl {
			return api.Decl{Kind: d.Kind, Name: d.Name, Digits: d.Digits}
		}},
		{api.DeclPlace, "place", readPlace, tellPlace, func(d api.Decl) api.Decl {
			return api.Decl{Kind: d.Kind, Name: d.Name, In: d.In, Money: d.Money}
		}},
		{api.DeclTax, "tax", readTax, tellTax, func(d api.Decl) api.Decl {
			return api.Decl{Kind: d.Kind, Name: d.Name, In: d.In, Policy: d.Policy, Mode: d.Mode, On: d.On, Instead: d.Instead}
		}},
		{api.DeclRate, "rate", readRate, tellRate, func(d api.Decl) api.Decl {
			return api.Decl{Kind: d.Kind, Name: d.Name, Class: d.Class, Span: d.Span, Brackets: d.Brackets}
		}},
		{api.DeclExempt, "exempt", readExempt, tellExempt, func(d api.Decl) api.Decl {
			return api.Decl{Kind: d.Kind, Name: d.Name, Class: d.Class, Span: d.Span, When: d.When}
		}},
		{api.DeclLeast, "least", readLeast, tellLeast, func(d api.Decl) api.Decl {
			return api.Decl{Kind: d.Kind, Name: d.Name, Span: d.Span, Least: d.Least}
		}},
	}
}

func kindOf(which api.DeclKind) (kind, bool) {
	for _, k := range kinds() {
		if k.kind == which {
			return k, true
		}
	}
	return kind{}, false
}

func kindsByWord() map[string]kind {
	words := map[string]kind{}
	for _, k := range kinds() {
		words[k.word] = k
	}
	return words
}

// The words and marks for what package api counts, in its order: from ByLine,
// ModeFloor, NodeBuyer and OpBelow on.
func policyWords() []string { return []string{"line", "invoice"} }
func modeWords() []string   { return []string{"floor", "ceil", "up", "down", "even"} }
func testWords() []string   { return []string{"buyer", "line", "amount", "quantity"} }
func opMarks() []string     { return []string{"<", "<=", ">", ">="} }
