package exchange_test

import (
	"math"
	"slices"
	"testing"

	"tollbook/api"
	"tollbook/exchange"
)

// wantNone asks what is no table for everything; ErrNil goes ahead of all else.
func wantNone(t *testing.T, x *exchange.Table) {
	t.Helper()
	if x.Copy() != nil {
		t.Error("a copy of no table")
	}
	for _, from := range []string{"EUR", "USD", "eur", "", "EURO"} {
		for _, to := range []string{"EUR", "USD", "us"} {
			for _, d := range append(wrongDays(), 0, 100, lastDay) {
				wantNoRate(t, x, from, to, d, api.ErrNil)
				for _, r := range []float64{1, 0, -1, math.NaN(), math.Inf(1), 0x1p-21, 0x1p21} {
					if e := x.Put(api.Quote{From: from, To: to, Date: d, Rate: r}); e != api.ErrNil {
						t.Errorf("Put: error %d", e)
					}
				}
			}
		}
	}
	if many := len(x.Quotes()); many != 0 {
		t.Errorf("%d quotes of no table", many)
	}
}

// P16.1 to P16.4, R4: tables that are nil, or that neither New nor Copy answered.
func TestNoTable(t *testing.T) {
	var none *exchange.Table
	var zero exchange.Table
	for _, x := range []*exchange.Table{none, &zero, {}, new(exchange.Table), none.Copy(), zero.Copy()} {
		wantNone(t, x)
	}
}

// R4, R6: a struct that has what a table's has was answered neither by New nor by
// Copy: it is no table, and nothing that is done to it is seen in the table.
func TestStructIsNoTable(t *testing.T) {
	for _, quotes := range [][]api.Quote{nil, example()} {
		x := table(t, quotes...)
		same := *x
		wantNone(t, &same)
		wantTable(t, x, quotes)
		room := exchange.New()
		*room = *x
		wantNone(t, room)
		wantTable(t, x, quotes)
		same = exchange.Table{}
		wantTable(t, x, quotes)
		tables := []exchange.Table{*x}
		wantNone(t, &slices.Clone(tables)[0])
		wantTable(t, x.Copy(), quotes)
	}
}
