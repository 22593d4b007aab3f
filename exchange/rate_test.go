package exchange_test

import (
	"math/big"
	"slices"
	"testing"

	"tollbook/api"
	"tollbook/exchange"
)

// P16.3: the chapter's examples.
func TestRateExamples(t *testing.T) {
	x := table(t, example()...)
	for _, c := range []struct {
		from, to string
		d        api.Date
		num, den int64
	}{{"EUR", "USD", 100, 5, 4}, {"USD", "EUR", 199, 4, 5}, {"EUR", "USD", 200, 5, 2}, {"USD", "EUR", 250, 1, 2}, {"EUR", "EUR", 0, 1, 1}, {"CHF", "CHF", 5, 1, 1}, {"EUR", "GBP", 0, 3602879701896397, 1 << 55}, {"GBP", "EUR", lastDay, 1 << 55, 3602879701896397}} {
		wantRate(t, x, c.from, c.to, c.d, big.NewRat(c.num, c.den))
	}
	for _, c := range []struct {
		from, to string
		d        api.Date
		err      api.Errno
	}{{"EUR", "USD", 99, api.ErrRate}, {"USD", "GBP", 300, api.ErrRate}, {"EUR", "usd", -1, api.ErrCurrency}, {"EUR", "USD", -1, api.ErrDate}, {"EUR", "EUR", lastDay + 1, api.ErrDate}} {
		wantNoRate(t, x, c.from, c.to, c.d, c.err)
	}
}

// P16.3: all codes and days beside each other, wrong and right, of a table with
// quotes and of one without: the first error is told.
func TestRateErrorsInOrder(t *testing.T) {
	codes := slices.Concat(rightCodes(), wrongCodes())
	for _, l := range []plain{nil, example()} {
		x := table(t, l...)
		for _, from := range codes {
			for _, to := range codes {
				for _, d := range append(wrongDays(), 0, 99, 100, 199, 200, lastDay) {
					wantAsPlain(t, x, l, from, to, d)
				}
			}
		}
		wantQuotes(t, x, l.sorted())
	}
}

// P16.3: two texts that are alike, but no codes, are no currency to itself.
func TestNoCodeToItself(t *testing.T) {
	x := table(t, example()...)
	for _, s := range wrongCodes() {
		wantNoRate(t, x, s, s, 5, api.ErrCurrency)
		wantNoRate(t, x, s, s, -5, api.ErrCurrency)
	}
	for _, s := range []string{"AAA", "ZZZ", "EUR", "XYZ"} {
		for _, d := range []api.Date{0, 1, lastDay} {
			wantRate(t, x, s, s, d, big.NewRat(1, 1))
			wantRate(t, exchange.New(), s, s, d, big.NewRat(1, 1))
		}
		wantNoRate(t, x, s, s, -1, api.ErrDate)
	}
}

// P16.3: a quote counts from its very day on, up to the day ahead of a newer one,
// at the first and the last day too.
func TestRateFromDayToDay(t *testing.T) {
	x := table(t, api.Quote{From: "EUR", To: "USD", Date: 0, Rate: 2}, api.Quote{From: "EUR", To: "USD", Date: 1, Rate: 3}, api.Quote{From: "EUR", To: "USD", Date: 10, Rate: 5}, api.Quote{From: "EUR", To: "USD", Date: lastDay, Rate: 7})
	for d, rate := range map[api.Date]int64{0: 2, 1: 3, 2: 3, 9: 3, 10: 5, 11: 5, lastDay - 1: 5, lastDay: 7} {
		wantRate(t, x, "EUR", "USD", d, big.NewRat(rate, 1))
		wantRate(t, x, "USD", "EUR", d, big.NewRat(1, rate))
	}
	last := table(t, api.Quote{From: "EUR", To: "USD", Date: lastDay, Rate: 7})
	wantNoRate(t, last, "EUR", "USD", lastDay-1, api.ErrRate)
	wantNoRate(t, last, "USD", "EUR", lastDay-1, api.ErrRate)
	wantNoRate(t, last, "USD", "EUR", 0, api.ErrRate)
	wantRate(t, last, "EUR", "USD", lastDay, big.NewRat(7, 1))
}

// P16.3: of the two ways the newer quote counts; of one day that from from to to.
func TestBothWays(t *testing.T) {
	for there := range api.Date(6) {
		for back := range api.Date(6) {
			x, l := exchange.New(), plain{quote("EUR", "USD", there, 3), quote("USD", "EUR", back, 0.25)}
			for _, q := range l {
				wantPut(t, x, nil, q)
			}
			for d := range api.Date(7) {
				forth, other := big.NewRat(3, 1), big.NewRat(1, 3)
				switch {
				case d < there && d < back:
					wantNoRate(t, x, "EUR", "USD", d, api.ErrRate)
					wantNoRate(t, x, "USD", "EUR", d, api.ErrRate)
					continue
				case there == back:
					other = big.NewRat(1, 4)
				case d < there, d >= back && back > there:
					forth, other = big.NewRat(4, 1), big.NewRat(1, 4)
				}
				wantRate(t, x, "EUR", "USD", d, forth)
				wantRate(t, x, "USD", "EUR", d, other)
			}
		}
	}
}

// P16.3: a rate is exactly the float's number, and the other way exactly one over
// it.
func TestRateIsExact(t *testing.T) {
	roll := dice(8)
	rates := rightRates()
	for range 500 {
		rates = append(rates, roll.rate())
	}
	for _, rate := range rates {
		x := table(t, api.Quote{From: "EUR", To: "USD", Date: 5, Rate: rate})
		exact := new(big.Rat).SetFloat64(rate)
		wantRate(t, x, "EUR", "USD", 5, exact)
		wantRate(t, x, "USD", "EUR", 5, new(big.Rat).Inv(exact))
	}
}

// P16.3: rates are not put together over a third currency, and a beginning of a
// code, or one with its letters turned, is not it.
func TestNoWayRound(t *testing.T) {
	x := table(t, api.Quote{From: "ABC", To: "BCA", Rate: 2}, api.Quote{From: "BCA", To: "CAB", Rate: 3}, api.Quote{From: "CBA", To: "ABC", Rate: 4})
	for _, c := range [][2]string{{"ABC", "CAB"}, {"CAB", "ABC"}, {"BCA", "CBA"}, {"CBA", "BCA"}, {"ABC", "ACB"}, {"BAC", "BCA"}, {"CBA", "CAB"}} {
		wantNoRate(t, x, c[0], c[1], lastDay, api.ErrRate)
	}
	wantRate(t, x, "ABC", "CBA", 0, big.NewRat(1, 4))
	wantRate(t, x, "CAB", "BCA", 0, big.NewRat(1, 3))
}

// P16.2 to P16.4: tables into which quotes of few currencies and days come, right
// ones and wrong ones, held against the list of them after each.
func TestManyPuts(t *testing.T) {
	roll := dice(5)
	for range 30 {
		codes, last := 2+roll.below(4), 1+roll.below(12)
		x, l := exchange.New(), plain(nil)
		for range 60 {
			q := roll.quote(codes, last)
			switch roll.below(8) {
			case 0:
				q.Rate = noRates()[roll.below(8)]
			case 1:
				q.To = q.From
			case 2:
				q.Date = -1 - q.Date
			}
			l = wantPut(t, x, l, q)
			wantQuotes(t, x, l.sorted())
			for range 20 {
				ask := roll.quote(codes, last+2)
				wantAsPlain(t, x, l, ask.From, ask.To, ask.Date)
			}
		}
		for from := range codes {
			for to := range codes {
				for d := range api.Date(last + 1) {
					wantAsPlain(t, x, l, code(from), code(to), d)
				}
			}
		}
	}
}

// P16.3: of full tables, all days on which something changes.
func TestRatesOfFullTables(t *testing.T) {
	for _, list := range manyShapes(most) {
		x, l := table(t, list...), plain(list)
		for i := 0; i < most; i += 41 {
			q := list[i]
			for _, d := range []api.Date{q.Date - 1, q.Date, q.Date + 1, 2000, lastDay} {
				wantAsPlain(t, x, l, q.From, q.To, d)
				wantAsPlain(t, x, l, q.To, q.From, d)
			}
		}
	}
}
