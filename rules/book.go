package rules

import (
	"cmp"
	"slices"
	"strings"

	"tollbook/api"
	"tollbook/juris"
	"tollbook/span"
	"tollbook/syntax"
)

// mark is what declarations are found by: currencies, places, taxes and leasts by
// their names, rates and exemptions by their classes as well.
type mark struct {
	kind  api.DeclKind
	name  string
	class string
}

// book is declarations, each of which may be by itself, and where they stand.
type book struct {
	decls []api.Decl
	// first has where each name of each kind is declared first.
	first map[mark]int
}

func bookOf(decls []api.Decl) book {
	b := book{decls: decls, first: map[mark]int{}}
	for at, d := range decls {
		named := mark{kind: d.Kind, name: d.Name}
		if _, is := b.first[named]; !is {
			b.first[named] = at
		}
	}
	return b
}

func (b book) has(kind api.DeclKind, name string) bool {
	_, is := b.first[mark{kind: kind, name: name}]
	return is
}

// declared is what is declared of a name that there is.
func (b book) declared(kind api.DeclKind, name string) api.Decl {
	return b.decls[b.first[mark{kind: kind, name: name}]]
}

// currency is the one of a code that there is.
func (b book) currency(code string) api.Currency {
	d := b.declared(api.DeclCurrency, code)
	return api.Currency{Name: d.Name, Digits: d.Digits}
}

// names are those that are declared of one kind, rising.
func (b book) names(kind api.DeclKind) []string {
	var list []string
	for _, d := range b.decls {
		if d.Kind == kind {
			list = append(list, d.Name)
		}
	}
	slices.Sort(list)
	return list
}

// parents has, for each place, where the place in which it is stands: the numbers of
// the declarations do for those of places, as taxes are in places, and nothing is in
// a tax.
func (b book) parents() []int {
	list := slices.Repeat([]int{noPlace}, len(b.decls))
	for at, d := range b.decls {
		if d.In != "" {
			list[at] = b.first[mark{kind: api.DeclPlace, name: d.In}]
		}
	}
	return list
}

// arcs lead from each tax to those that it stands on.
func (b book) arcs() []api.Arc {
	var list []api.Arc
	for at, d := range b.decls {
		for _, on := range d.On {
			list = append(list, api.Arc{From: at, To: b.first[mark{kind: api.DeclTax, name: on}]})
		}
	}
	return list
}

// moneys has the money of each place: its own, or else that of the place in which
// it is; an empty text, where there is none. No place may lie over itself.
func (b book) moneys() []string {
	parents := b.parents()
	tree, _ := juris.New(parents)
	list := make([]string, len(b.decls))
	for _, at := range tree.Order() {
		list[at] = b.decls[at].Money
		if list[at] == "" && parents[at] != noPlace {
			list[at] = list[parents[at]]
		}
	}
	return list
}

// entries has the spans of what is declared of that kind, each with the place at
// which it is, in their order: those of one name and class together.
func (b book) entries(kind api.DeclKind) map[mark][]span.Entry[int] {
	lists := map[mark][]span.Entry[int]{}
	for at, d := range b.decls {
		if d.Kind == kind {
			held := mark{kind, d.Name, d.Class}
			lists[held] = append(lists[held], span.Entry[int]{Span: d.Span, Value: at})
		}
	}
	return lists
}

// canon is declarations by their kinds, and by their texts.
func canon(decls []api.Decl) []api.Decl {
	type printed struct {
		text string
		decl api.Decl
	}
	var all []printed
	for _, d := range decls {
		text, _ := syntax.Print([]api.Decl{d})
		all = append(all, printed{text, own(d)})
	}
	slices.SortFunc(all, func(a, b printed) int {
		return cmp.Or(cmp.Compare(a.decl.Kind, b.decl.Kind), strings.Compare(a.text, b.text))
	})
	var list []api.Decl
	for _, p := range all {
		list = append(list, p.decl)
	}
	return list
}

// own is a copy that keeps none of the texts either, which may be pieces of long
// ones.
func own(d api.Decl) api.Decl {
	d = copied(d)
	texts := []*string{&d.Name, &d.In, &d.Money, &d.Class}
	for i := range d.On {
		texts = append(texts, &d.On[i])
	}
	for i := range d.Instead {
		texts = append(texts, &d.Instead[i])
	}
	for i := range d.When {
		texts = append(texts, &d.When[i].Name)
	}
	for _, text := range texts {
		*text = strings.Clone(*text)
	}
	return d
}

// copied shares no list with d.
func copied(d api.Decl) api.Decl {
	d.On = fresh(d.On)
	d.Instead = fresh(d.Instead)
	d.Brackets = fresh(d.Brackets)
	d.When = fresh(d.When)
	return d
}

// fresh is nil of a list without anything: slices.Clone would keep what such a list
// is a piece of.
func fresh[T any](of []T) []T {
	return append([]T(nil), of...)
}
