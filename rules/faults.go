package rules

import (
	"slices"

	"tollbook/api"
	"tollbook/juris"
	"tollbook/order"
	"tollbook/span"
	"tollbook/syntax"
)

// noneAlone is the place of a fault that no declaration has by itself.
const noneAlone = -1

// kind is a kind of fault: its number, and how the first declaration that has it
// is found, if one has. Each is looked for only in a book that has none of those
// ahead of it: so names that are spoken of are declared, once, and rings end a
// search ahead of those who would go round in them.
type kind struct {
	err   api.Errno
	first func(b book) (int, bool)
}

func kinds() []kind {
	return []kind{
		{api.ErrTwice, each(isAgain)},
		{api.ErrLong, tooMany},
		{api.ErrName, each(isLost)},
		{api.ErrTwice, each(isDouble)},
		{api.ErrRing, placeRing},
		{api.ErrRing, taxRing},
		{api.ErrMoney, moneyless},
		{api.ErrOverlap, overlap(api.DeclRate)},
		{api.ErrOverlap, overlap(api.DeclLeast)},
	}
}

func check(decls []api.Decl) api.Fault {
	if fault := syntax.Check(decls); fault.Err != api.OK {
		return fault
	}
	b := bookOf(decls)
	for _, k := range kinds() {
		if at, is := k.first(b); is {
			return api.Fault{Err: k.err, At: at}
		}
	}
	return api.Fault{}
}

// each finds the first declaration that is so.
func each(isSo func(b book, at int) bool) func(b book) (int, bool) {
	return func(b book) (int, bool) {
		for at := range b.decls {
			if isSo(b, at) {
				return at, true
			}
		}
		return 0, false
	}
}

func isAgain(b book, at int) bool {
	d := b.decls[at]
	isOnce := d.Kind == api.DeclCurrency || d.Kind == api.DeclPlace || d.Kind == api.DeclTax
	return isOnce && b.first[mark{kind: d.Kind, name: d.Name}] != at
}

func tooMany(b book) (int, bool) {
	many := 0
	for _, d := range b.decls {
		if d.Kind == api.DeclCurrency {
			many++
		}
	}
	return noneAlone, many > api.MaxCodes
}

// isLost: what the declaration speaks of is not there, or may not be meant.
func isLost(b book, at int) bool {
	d := b.decls[at]
	switch d.Kind {
	case api.DeclCurrency:
		return false
	case api.DeclPlace:
		return d.In != "" && !b.has(api.DeclPlace, d.In) || d.Money != "" && !b.has(api.DeclCurrency, d.Money)
	case api.DeclTax:
		isOther := func(name string) bool { return name != d.Name && b.has(api.DeclTax, name) }
		return !b.has(api.DeclPlace, d.In) || !areAll(d.On, isOther) || !areAll(d.Instead, isOther)
	}
	return !b.has(api.DeclTax, d.Name)
}

func areAll(list []string, isSo func(name string) bool) bool {
	for _, name := range list {
		if !isSo(name) {
			return false
		}
	}
	return true
}

func isDouble(b book, at int) bool {
	return hasTwice(b.decls[at].On) || hasTwice(b.decls[at].Instead)
}

func hasTwice(list []string) bool {
	for i, name := range list {
		if slices.Contains(list[:i], name) {
			return true
		}
	}
	return false
}

func placeRing(b book) (int, bool) {
	_, fault := juris.New(b.parents())
	return fault.At, fault.Err == api.ErrRing
}

func taxRing(b book) (int, bool) {
	ring, _ := order.Ring(len(b.decls), b.arcs())
	if len(ring) == 0 {
		return 0, false
	}
	return ring[0], true
}

func moneyless(b book) (int, bool) {
	for at, money := range b.moneys() {
		if money == "" && b.decls[at].Kind == api.DeclPlace {
			return at, true
		}
	}
	return 0, false
}

// overlap finds the first declaration of that kind that holds on a day on which
// one ahead of it, of the same name and class, does.
func overlap(kind api.DeclKind) func(b book) (int, bool) {
	return func(b book) (int, bool) {
		first := len(b.decls)
		for _, entries := range b.entries(kind) {
			if _, fault := span.New(entries); fault.Err != api.OK {
				first = min(first, entries[fault.At].Value)
			}
		}
		return first, first < len(b.decls)
	}
}
