package scope_test

import (
	"strings"
	"testing"

	"tollbook/api"
	"tollbook/exchange"
	"tollbook/rules"
	"tollbook/scope"
)

// manyTraits are so many, rising.
func manyTraits(n int) []string {
	var list []string
	for i := range n {
		list = append(list, string(rune('a'+i)))
	}
	return list
}

// change is what one does to a question that may be asked.
type change func(q *api.Ask)

// rights change a question that may be asked into another one.
func rights() []change {
	return []change{
		func(q *api.Ask) {},
		func(q *api.Ask) { q.Date = 0 },
		func(q *api.Ask) { q.Date = api.MaxDate },
		func(q *api.Ask) { q.Class = "a.b.c.d.e.f.g.h" },
		func(q *api.Ask) { q.Class = strings.Repeat("z", 24) },
		func(q *api.Ask) { q.Currency = "JPY" },
		func(q *api.Ask) { q.Buyer, q.Traits = manyTraits(16), manyTraits(16) },
		func(q *api.Ask) { q.Traits = []string{strings.Repeat("z", 24)} },
		func(q *api.Ask) { q.Buyer = []string{"a", "a1", "a_", "aa", "b"} },
		func(q *api.Ask) { q.Amount = 0 },
		func(q *api.Ask) { q.Amount = 1<<63 - 1 },
		func(q *api.Ask) { q.Quantity = 1 },
		func(q *api.Ask) { q.Quantity = 1000000 },
		func(q *api.Ask) { q.Sales = []api.Sale{sale("", "", -1)} },
		func(q *api.Ask) {
			q.Sales = []api.Sale{sale("a", "EUR", 5), sale("a", "EURO", 4), sale("a", "USD", 3), sale("ab", "", 2), sale("b", "EUR", 1)}
		},
	}
}

// wrongs have all that is wrong of a question, each error's together, in their order.
func wrongs() []struct {
	err  api.Errno
	list []change
} {
	return []struct {
		err  api.Errno
		list []change
	}{
		{api.ErrPlace, []change{
			func(q *api.Ask) { q.Place = "x" },
			func(q *api.Ask) { q.Place = "" },
			func(q *api.Ask) { q.Place = "vat" },
			func(q *api.Ask) { q.Place = "EUR" },
			func(q *api.Ask) { q.Place = strings.Repeat("ny", 1<<18) },
		}},
		{api.ErrDate, []change{
			func(q *api.Ask) { q.Date = -1 },
			func(q *api.Ask) { q.Date = behind },
			func(q *api.Ask) { q.Date = -1 << 63 },
			func(q *api.Ask) { q.Date = 1<<63 - 1 },
		}},
		{api.ErrClass, []change{
			func(q *api.Ask) { q.Class = "" },
			func(q *api.Ask) { q.Class = "Food" },
			func(q *api.Ask) { q.Class = "food." },
			func(q *api.Ask) { q.Class = "food.rate" },
			func(q *api.Ask) { q.Class = "a.b.c.d.e.f.g.h.i" },
			func(q *api.Ask) { q.Class = strings.Repeat("a.", 1<<18) },
		}},
		{api.ErrCurrency, []change{
			func(q *api.Ask) { q.Currency = "CHF" },
			func(q *api.Ask) { q.Currency = "" },
			func(q *api.Ask) { q.Currency = "eur" },
			func(q *api.Ask) { q.Currency = "ny" },
			func(q *api.Ask) { q.Currency = strings.Repeat("EUR", 1<<18) },
		}},
		{api.ErrTrait, []change{
			func(q *api.Ask) { q.Buyer = []string{"b", "a"} },
			func(q *api.Ask) { q.Traits = []string{"a", "a"} },
			func(q *api.Ask) { q.Buyer = []string{"tax"} },
			func(q *api.Ask) { q.Traits = []string{""} },
			func(q *api.Ask) { q.Buyer = manyTraits(17) },
			func(q *api.Ask) { q.Traits = manyTraits(17) },
			func(q *api.Ask) { q.Traits = []string{strings.Repeat("z", 25)} },
			func(q *api.Ask) { q.Buyer = []string{"a.b"} },
		}},
		{api.ErrArg, []change{
			func(q *api.Ask) { q.Amount = -1 },
			func(q *api.Ask) { q.Amount = -1 << 63 },
			func(q *api.Ask) { q.Quantity = 0 },
			func(q *api.Ask) { q.Quantity = -1 },
			func(q *api.Ask) { q.Quantity = 1000001 },
			func(q *api.Ask) { q.Sales = []api.Sale{sale("ny", "USD", 1), sale("ny", "USD", 2)} },
			func(q *api.Ask) { q.Sales = []api.Sale{sale("ny", "USD", 1), sale("ny", "EUR", 2)} },
			func(q *api.Ask) { q.Sales = []api.Sale{sale("ny", "EUR", 1), sale("a", "USD", 2)} },
			func(q *api.Ask) { q.Sales = []api.Sale{sale("", "", 1), sale("", "", 1)} },
			func(q *api.Ask) {
				q.Sales = []api.Sale{sale("a", "EUR", 1), sale("b", "EUR", 1), sale("c", "EUR", 1), sale("c", "EUR", 1)}
			},
		}},
	}
}

// P20.1: the chapter's example 4.
func TestErrorExamples(t *testing.T) {
	b := textBook(t, example)
	for _, c := range []struct {
		turn change
		err  api.Errno
	}{
		{func(q *api.Ask) { q.Place = "x" }, api.ErrPlace},
		{func(q *api.Ask) { q.Date = -1 }, api.ErrDate},
		{func(q *api.Ask) { q.Class = "" }, api.ErrClass},
		{func(q *api.Ask) { q.Currency = "CHF" }, api.ErrCurrency},
		{func(q *api.Ask) { q.Buyer = []string{"b", "a"} }, api.ErrTrait},
		{func(q *api.Ask) { q.Amount = -1 }, api.ErrArg},
		{func(q *api.Ask) { q.Quantity = 0 }, api.ErrArg},
		{func(q *api.Ask) { q.Quantity = 1000001 }, api.ErrArg},
		{func(q *api.Ask) { q.Sales = []api.Sale{sale("ny", "USD", 1), sale("ny", "USD", 1)} }, api.ErrArg},
	} {
		q := ask("ny", "food")
		c.turn(&q)
		b.wantErr(t, q, c.err)
	}
}

// P20.1: what is just right is taken.
func TestTaken(t *testing.T) {
	b := textBook(t, example)
	for i, one := range rights() {
		for _, other := range rights() {
			q := ask("ny", "food")
			one(&q)
			other(&q)
			b.want(t, q)
			if _, e := scope.Names(b.model, q); e != api.OK {
				t.Errorf("%d: %d", i, e)
			}
		}
	}
}

// P20.1: each error, and of two and more at once the first one.
func TestErrorsInOrder(t *testing.T) {
	b := textBook(t, example)
	all := wrongs()
	for i, first := range all {
		for _, one := range first.list {
			q := ask("ny", "food")
			one(&q)
			b.wantErr(t, q, first.err)
			for _, later := range all[i+1:] {
				for _, other := range later.list {
					two := q
					other(&two)
					b.wantErr(t, two, first.err)
				}
			}
		}
		// The last one of each error behind it.
		q := ask("ny", "food")
		for _, later := range all[i:] {
			later.list[len(later.list)-1](&q)
		}
		b.wantErr(t, q, first.err)
	}
}

// P20.1: what is wrong goes ahead of too many taxes; these ahead of a rate that there
// is not.
func TestLongInOrder(t *testing.T) {
	b := bookOf(t, decls(t, start+taxesOf(9, "b", "1%, 2% above 5")), nil)
	b.wantErr(t, ask("b", "x"), api.ErrLong)
	for _, c := range wrongs() {
		for _, one := range c.list {
			q := ask("b", "x")
			one(&q)
			b.wantErr(t, q, c.err)
		}
	}
	b = bookOf(t, decls(t, start+taxesOf(8, "b", "1%, 2% above 5")), nil)
	b.wantNoRate(t, ask("b", "x"))
}

// P20.1, R4: no model, no table, whatever else; Names asks for no table.
func TestNone(t *testing.T) {
	b := textBook(t, example)
	questions := []api.Ask{{}, ask("ny", "food"), ask("", "food")}
	for _, c := range wrongs() {
		for _, one := range c.list {
			q := ask("ny", "food")
			one(&q)
			questions = append(questions, q)
		}
	}
	copied := *b.table
	for _, q := range questions {
		for _, m := range []*rules.Model{nil, {}} {
			if list, e := scope.Names(m, q); list != nil || e != api.ErrNil {
				t.Errorf("%.200v: %v, %d", q, list, e)
			}
			for _, x := range []*exchange.Table{nil, {}, b.table} {
				if list, e := scope.Resolve(m, x, q); list != nil || e != api.ErrNil {
					t.Errorf("%.200v: %v, %d", q, list, e)
				}
			}
		}
		for _, x := range []*exchange.Table{nil, {}, &copied} {
			if list, e := scope.Resolve(b.model, x, q); list != nil || e != api.ErrNil {
				t.Errorf("%.200v: %v, %d", q, list, e)
			}
		}
	}
	// A table and a model without anything are there.
	empty, _ := rules.Of(nil)
	if _, e := scope.Resolve(empty, exchange.New(), ask("ny", "food")); e != api.ErrPlace {
		t.Error(e)
	}
	if list, e := scope.Resolve(b.model, exchange.New(), ask("ny", "food")); len(list) != 1 || e != api.OK {
		t.Error(list, e)
	}
}
