package rules

import (
	"tollbook/api"
	"tollbook/order"
	"tollbook/span"
)

// What a model is made of: all from a book without a fault.

// parentsOf has, by the places' numbers, the number of the place in which each is.
func parentsOf(b book, places []string) []int {
	var list []int
	for _, name := range places {
		parent, is := number(places, b.declared(api.DeclPlace, name).In)
		if !is {
			parent = noPlace
		}
		list = append(list, parent)
	}
	return list
}

// orderOf has the taxes' names, each behind what it stands on.
func orderOf(b book, taxes []string) []string {
	var arcs []api.Arc
	for from, name := range taxes {
		for _, on := range b.declared(api.DeclTax, name).On {
			to, _ := number(taxes, on)
			arcs = append(arcs, api.Arc{From: from, To: to})
		}
	}
	numbers, _ := order.Sort(len(taxes), arcs)
	var list []string
	for _, tax := range numbers {
		list = append(list, taxes[tax])
	}
	return list
}

// moneyOf has what the taxes of each place are told in.
func moneyOf(b book) map[string]api.Currency {
	money := map[string]api.Currency{}
	for at, code := range b.moneys() {
		if d := b.decls[at]; d.Kind == api.DeclPlace {
			money[d.Name] = b.currency(code)
		}
	}
	return money
}

// timesOf has where the rate of a name and a class stands, and the least of a name,
// from day to day.
func timesOf(b book) map[mark]*span.Line[int] {
	times := map[mark]*span.Line[int]{}
	for _, kind := range []api.DeclKind{api.DeclRate, api.DeclLeast} {
		for held, entries := range b.entries(kind) {
			times[held], _ = span.New(entries)
		}
	}
	return times
}
