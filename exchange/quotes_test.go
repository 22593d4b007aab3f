package exchange_test

import (
	"testing"

	"tollbook/api"
	"tollbook/exchange"
)

// P16.1, P16.4: the chapter's example, and tables without a quote.
func TestQuotes(t *testing.T) {
	x := table(t, example()...)
	wantQuotes(t, x, []api.Quote{quote("EUR", "GBP", 0, 0.1), quote("EUR", "USD", 100, 1.25), quote("EUR", "USD", 200, 2.5), quote("USD", "EUR", 200, 0.5)})
	if e := x.Put(api.Quote{From: "EUR", To: "USD", Date: 100, Rate: 2}); e != api.OK {
		t.Error(e)
	}
	wantQuotes(t, x, []api.Quote{quote("EUR", "GBP", 0, 0.1), quote("EUR", "USD", 100, 2), quote("EUR", "USD", 200, 2.5), quote("USD", "EUR", 200, 0.5)})
	wantQuotes(t, exchange.New(), nil)
	wantQuotes(t, exchange.New().Copy(), nil)
}

// P16.4: From goes ahead of To, To ahead of Date, and dates count as numbers.
func TestQuotesRise(t *testing.T) {
	rising := []api.Quote{
		quote("AAA", "AAB", 2, 1), quote("AAA", "AAB", 10, 1), quote("AAA", "AAB", 9000, 1), quote("AAA", "AAB", lastDay, 1), quote("AAA", "ABA", 0, 1), quote("AAA", "BAA", 0, 9), quote("AAA", "ZZZ", 5, 3),
		quote("AAB", "AAA", 1, 1), quote("AAB", "AAC", 0, 1), quote("ABA", "AAA", 3, 4), quote("BAA", "AAA", 0, 1), quote("BAA", "AAZ", 0, 1), quote("ZZZ", "AAA", 4, 5), quote("ZZZ", "ZZY", 0, 2),
	}
	roll := dice(17)
	for range 50 {
		wantQuotes(t, table(t, roll.mixed(rising)...), rising)
	}
}

// P16.4: Quotes changes nothing, and tells the same again.
func TestQuotesAgain(t *testing.T) {
	for _, list := range manyShapes(300) {
		x := table(t, list...)
		for range 3 {
			wantQuotes(t, x, plain(list).sorted())
		}
		wantTable(t, x, list)
	}
}
