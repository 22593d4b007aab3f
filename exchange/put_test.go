package exchange_test

import (
	"math"
	"slices"
	"testing"

	"tollbook/api"
	"tollbook/exchange"
)

// P16.2: the chapter's examples.
func TestPutExamples(t *testing.T) {
	x := table(t, example()...)
	for _, c := range []struct {
		q   api.Quote
		err api.Errno
	}{
		{api.Quote{From: "EUR", To: "EUR", Rate: 1}, api.ErrCurrency},
		{api.Quote{From: "EU", To: "USD", Rate: 1}, api.ErrCurrency},
		{api.Quote{From: "EUR", To: "USDX", Rate: 1}, api.ErrCurrency},
		{api.Quote{From: "EUR", To: "USD", Date: -1, Rate: 1}, api.ErrDate},
		{api.Quote{From: "EUR", To: "USD", Date: -1, Rate: math.NaN()}, api.ErrDate},
		{api.Quote{From: "EUR", To: "USD", Rate: math.NaN()}, api.ErrReal},
		{api.Quote{From: "EUR", To: "USD", Rate: math.Inf(1)}, api.ErrReal},
		{api.Quote{From: "EUR", To: "USD", Rate: math.Inf(-1)}, api.ErrReal},
		{api.Quote{From: "EUR", To: "USD", Rate: 0}, api.ErrReal},
		{api.Quote{From: "EUR", To: "USD", Rate: math.Copysign(0, -1)}, api.ErrReal},
		{api.Quote{From: "EUR", To: "USD", Rate: -1}, api.ErrReal},
		{api.Quote{From: "EUR", To: "USD", Rate: 0x1p-21}, api.ErrRate},
		{api.Quote{From: "EUR", To: "USD", Rate: 1048576.0000000002}, api.ErrRate},
		{api.Quote{From: "EUR", To: "USD", Rate: 5e-324}, api.ErrRate},
	} {
		if e := x.Put(c.q); e != c.err {
			t.Errorf("Put(%v): error %d, wanted %d", c.q, e, c.err)
		}
	}
	wantTable(t, x, example())
	least, greatest := api.Quote{From: "EUR", To: "USD", Rate: 0x1p-20}, api.Quote{From: "USD", To: "GBP", Rate: 0x1p20}
	for _, q := range []api.Quote{least, greatest, {From: "EUR", To: "USD", Date: 100, Rate: 2}} {
		if e := x.Put(q); e != api.OK {
			t.Errorf("Put(%v): error %d", q, e)
		}
	}
	wantQuotes(t, x, []api.Quote{quote("EUR", "GBP", 0, 0.1), quote("EUR", "USD", 0, 0x1p-20), quote("EUR", "USD", 100, 2), quote("EUR", "USD", 200, 2.5), quote("USD", "EUR", 200, 0.5), quote("USD", "GBP", 0, 0x1p20)})
}

// P16.2: all codes, days and rates beside each other, wrong and right: the first
// error is told, and changes nothing.
func TestPutErrorsInOrder(t *testing.T) {
	codes := slices.Concat(rightCodes(), wrongCodes())
	days := append(wrongDays(), 0, 1, 100, lastDay-1, lastDay)
	rates := slices.Concat(noRates(), farRates(), rightRates())
	x, l := table(t, example()...), plain(example())
	for _, from := range codes {
		for _, to := range codes {
			for _, d := range days {
				for _, r := range rates {
					l = wantPut(t, x, l, api.Quote{From: from, To: to, Date: d, Rate: r})
				}
			}
		}
	}
	wantTable(t, x, l)
	// Of the chapter's four the one of EUR USD 100 is put again.
	if len(l) != 3+6*5*5 {
		t.Errorf("%d quotes", len(l))
	}
}

// P16.2: to a table without a quote and to a full one wrong quotes tell the same,
// and only what is right, and not there, that it is full.
func TestPutErrorsOfEmptyAndFull(t *testing.T) {
	full := days(most)
	for _, quotes := range [][]api.Quote{nil, full} {
		x, l := table(t, quotes...), plain(quotes)
		for _, from := range []string{"AAA", "AAB", "aaa", ""} {
			for _, to := range []string{"AAA", "AAB", "EURO"} {
				for _, d := range []api.Date{-1, 0, 7, most - 1, most, lastDay, lastDay + 1} {
					for _, r := range []float64{math.NaN(), math.Inf(1), 0, -1, 0x1p-21, 0x1p21, 5e-324} {
						l = wantPut(t, x, l, api.Quote{From: from, To: to, Date: d, Rate: r})
					}
				}
			}
		}
		wantQuotes(t, x, plain(quotes).sorted())
	}
}

// P16.2: rates of just 2^-20 and 2^20, and the floats on both sides of them.
func TestPutRatesAtTheEnds(t *testing.T) {
	for _, c := range []struct {
		rate float64
		err  api.Errno
	}{
		{math.Nextafter(0x1p-20, 0), api.ErrRate}, {0x1p-20, api.OK}, {math.Nextafter(0x1p-20, 1), api.OK},
		{math.Nextafter(0x1p20, 0), api.OK}, {0x1p20, api.OK}, {math.Nextafter(0x1p20, math.Inf(1)), api.ErrRate},
		{-0x1p-20, api.ErrReal}, {-0x1p20, api.ErrReal}, {math.MaxFloat64, api.ErrRate}, {math.SmallestNonzeroFloat64, api.ErrRate},
	} {
		x := exchange.New()
		if e := x.Put(api.Quote{From: "EUR", To: "USD", Date: 5, Rate: c.rate}); e != c.err {
			t.Errorf("%v: error %d, wanted %d", c.rate, e, c.err)
		}
		if many := len(x.Quotes()); (many == 1) != (c.err == api.OK) {
			t.Errorf("%v: %d quotes", c.rate, many)
		}
	}
}

// P16.2: a quote of the same key is in the place of the one that was, whatever
// its rate; one with another From, To or Date is another one.
func TestPutAgain(t *testing.T) {
	x, l := exchange.New(), plain(nil)
	for _, r := range append(rightRates(), 1, 1, 0.1) {
		for _, q := range []api.Quote{quote("EUR", "USD", 7, r), quote("USD", "EUR", 7, 1), quote("EUR", "USD", 8, 1/r), quote("EUR", "USE", 7, r), quote("EUS", "USD", 7, 3)} {
			l = wantPut(t, x, l, q)
		}
		wantTable(t, x, l)
		if many := len(x.Quotes()); many != 5 {
			t.Fatalf("%d quotes", many)
		}
	}
}

// P16.2: what is refused leaves a quote of the same key as it was.
func TestRefusedLeavesAsItWas(t *testing.T) {
	x := table(t, example()...)
	for _, r := range append(noRates(), farRates()...) {
		for _, q := range example() {
			q.Rate = r
			if e := x.Put(q); e == api.OK {
				t.Errorf("Put(%v)", q)
			}
		}
	}
	wantTable(t, x, example())
}

// days are so many quotes of one pair, one a day.
func days(n int) []api.Quote {
	list := make([]api.Quote, n)
	for i := range list {
		list[i] = api.Quote{From: "AAA", To: "AAB", Date: api.Date(i), Rate: float64(i + 1)}
	}
	return list
}

// manyShapes are tables of n quotes: of one pair, of as many pairs, of both ways of
// one pair, of pairs and days, each mixed as well.
func manyShapes(n int) [][]api.Quote {
	roll := dice(21)
	shapes := [][]api.Quote{days(n)}
	for _, of := range []func(i int) api.Quote{
		func(i int) api.Quote { return api.Quote{From: code(i), To: code(i + 1), Date: lastDay} },
		func(i int) api.Quote {
			return api.Quote{From: code(i % 2), To: code(1 - i%2), Date: api.Date(lastDay - i/2)}
		},
		func(i int) api.Quote {
			return api.Quote{From: code(i % 8), To: code(8 + i/8%8), Date: api.Date(i / 64 * 1000)}
		},
	} {
		list := make([]api.Quote, n)
		for i := range list {
			list[i] = of(i)
			list[i].Rate = roll.rate()
		}
		shapes = append(shapes, list)
	}
	for _, list := range shapes[:4] {
		shapes = append(shapes, roll.mixed(list))
	}
	return shapes
}

// P16.2: just 4096 quotes are taken, one more is not, unless its key is there.
func TestFull(t *testing.T) {
	for _, list := range manyShapes(most) {
		x, l := exchange.New(), plain(list)
		for i, q := range list {
			if e := x.Put(q); e != api.OK {
				t.Fatalf("the quote %d: error %d", i, e)
			}
		}
		wantQuotes(t, x, l.sorted())
		news := []api.Quote{quote("EUR", "USD", 0, 1), quote("USD", "EUR", lastDay, 0.5), quote(list[0].From, "ZZZ", list[0].Date, 1), quote("ZZZ", list[0].To, list[0].Date, 1), quote(list[9].From, list[9].To, 4100, 1)}
		for _, q := range news {
			if e := x.Put(q); e != api.ErrFull {
				t.Errorf("Put(%v): error %d", q, e)
			}
		}
		wantQuotes(t, x, l.sorted())
		for i := 0; i < most; i += 97 {
			l = wantPut(t, x, l, api.Quote{From: list[i].From, To: list[i].To, Date: list[i].Date, Rate: 77})
			if e := x.Put(news[i%len(news)]); e != api.ErrFull {
				t.Errorf("again %d: error %d", i, e)
			}
		}
		wantQuotes(t, x, l.sorted())
	}
}

// P16.2: what counts is how many quotes are there, not how many were put; and with
// one below 4096 there is room for one, of whatever pair.
func TestNearlyFull(t *testing.T) {
	for _, list := range manyShapes(most - 1) {
		for _, q := range []api.Quote{quote("EUR", "USD", 0, 1), quote(list[5].To, list[5].From, 4101, 1), quote(list[5].From, list[5].To, 4101, 1)} {
			x := table(t, list...)
			for range 3 {
				for _, again := range list[:50] {
					if e := x.Put(again); e != api.OK {
						t.Fatalf("Put(%v): error %d", again, e)
					}
				}
			}
			if e := x.Put(q); e != api.OK || len(x.Quotes()) != most {
				t.Errorf("Put(%v): error %d", q, e)
			}
			if e := x.Put(q); e != api.OK {
				t.Errorf("again: error %d", e)
			}
			q.Date++
			if e := x.Put(q); e != api.ErrFull || len(x.Quotes()) != most {
				t.Errorf("one more: error %d", e)
			}
		}
	}
}
