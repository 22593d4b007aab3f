package exchange_test

import (
	"testing"

	"tollbook/api"
	"tollbook/exchange"
)

// P16.1: a new table has no quote, and no two of them are one.
func TestNew(t *testing.T) {
	a, b := exchange.New(), exchange.New()
	if a == nil || b == nil || a == b {
		t.Fatal("New")
	}
	wantTable(t, a, nil)
	if e := a.Put(example()[0]); e != api.OK {
		t.Error(e)
	}
	wantTable(t, b, nil)
	wantNoRate(t, b, "EUR", "USD", 100, api.ErrRate)
	wantTable(t, exchange.New(), nil)
}

// P16.1: a copy has the same quotes, and what is put to either later, news, ahead
// of others and in the place of others, is not in the other one.
func TestCopy(t *testing.T) {
	a := table(t, example()...)
	b := a.Copy()
	if b == nil || b == a {
		t.Fatal("Copy")
	}
	wantTable(t, b, example())
	la, lb := plain(example()), plain(example())
	for _, q := range []api.Quote{quote("EUR", "USD", 100, 9), quote("EUR", "USD", 150, 8), quote("EUR", "USD", 0, 3), quote("CHF", "EUR", 7, 1), quote("USD", "EUR", 100, 6)} {
		la = wantPut(t, a, la, q)
		wantTable(t, a, la)
		wantTable(t, b, lb)
	}
	for _, q := range []api.Quote{quote("EUR", "USD", 100, 4), quote("EUR", "USD", 151, 0.5), quote("EUR", "USD", 0, 0.25), quote("GBP", "EUR", 7, 1), quote("USD", "EUR", 201, 6)} {
		lb = wantPut(t, b, lb, q)
		wantTable(t, a, la)
		wantTable(t, b, lb)
	}
}

// P16.1: copies of tables that have grown, and copies of copies, into each of
// which quotes come in turn.
func TestCopiesOfCopies(t *testing.T) {
	roll := dice(31)
	tables, lists := []*exchange.Table{exchange.New()}, []plain{nil}
	for range 400 {
		at := roll.below(len(tables))
		if roll.below(20) == 0 {
			tables, lists = append(tables, tables[at].Copy()), append(lists, lists[at])
			continue
		}
		lists[at] = wantPut(t, tables[at], lists[at], roll.quote(3, 20))
	}
	if len(tables) < 10 {
		t.Fatalf("%d tables", len(tables))
	}
	for i, x := range tables {
		wantTable(t, x, lists[i])
	}
}

// P16.1, P16.2: a copy of a full table is full, one of a table with room for one
// has that room, and fills up by itself.
func TestCopyOfFull(t *testing.T) {
	for _, list := range manyShapes(most) {
		a := table(t, list[:most-1]...)
		b := a.Copy()
		if e := a.Put(list[most-1]); e != api.OK {
			t.Errorf("error %d", e)
		}
		c := a.Copy()
		more := api.Quote{From: "EUR", To: "USD", Date: 3, Rate: 1}
		for _, x := range []*exchange.Table{a, c} {
			if e := x.Put(more); e != api.ErrFull {
				t.Errorf("error %d", e)
			}
		}
		if e := b.Put(more); e != api.OK {
			t.Errorf("error %d", e)
		}
		if e := b.Put(list[most-1]); e != api.ErrFull {
			t.Errorf("error %d", e)
		}
		wantQuotes(t, c, plain(list).sorted())
		wantQuotes(t, a, plain(list).sorted())
	}
}

// P16.1: Copy changes nothing.
func TestCopyLeavesAsItWas(t *testing.T) {
	for _, list := range manyShapes(200) {
		x := table(t, list...)
		x.Copy()
		x.Copy().Put(api.Quote{From: "EUR", To: "USD", Date: 3, Rate: 1})
		wantTable(t, x, list)
	}
}
