package exchange_test

import (
	"math/big"
	"slices"
	"testing"

	"tollbook/api"
	"tollbook/exchange"
)

// someTables are of few currencies and days, so that quotes of both ways meet.
func someTables() [][]api.Quote {
	roll := dice(41)
	var tables [][]api.Quote
	for range 40 {
		var l plain
		for range 1 + roll.below(60) {
			l, _ = l.put(roll.quote(2+roll.below(3), 1+roll.below(30)))
		}
		tables = append(tables, l)
	}
	return append(tables, nil, example())
}

// P16.5: there and back is 1, where on the newest day there is a quote one way
// alone; and if not, it is what the two quotes come to.
func TestThereAndBack(t *testing.T) {
	alone, both := 0, 0
	for _, list := range someTables() {
		x := table(t, list...)
		for _, q := range list {
			for d := q.Date; d < q.Date+3; d++ {
				there, err := x.Rate(q.From, q.To, d)
				back, errBack := x.Rate(q.To, q.From, d)
				if err != api.OK || errBack != api.OK {
					t.Fatalf("errors %d, %d", err, errBack)
				}
				want := big.NewRat(1, 1)
				if one, two, is := bothOfNewest(list, q, d); is {
					want = new(big.Rat).Mul(new(big.Rat).SetFloat64(one), new(big.Rat).SetFloat64(two))
					both++
				} else {
					alone++
				}
				if got := new(big.Rat).Mul(ratOf(there), ratOf(back)); got.Cmp(want) != 0 {
					t.Fatalf("%s %s %d: %v, wanted %v", q.From, q.To, d, got, want)
				}
			}
		}
	}
	if alone < 100 || both < 100 {
		t.Errorf("%d and %d", alone, both)
	}
}

// bothOfNewest tells the two rates of the newest day up to d that has a quote, and
// whether there are two.
func bothOfNewest(list []api.Quote, q api.Quote, d api.Date) (there, back float64, both bool) {
	for ; d >= 0; d-- {
		one := plain(list).place(api.Quote{From: q.From, To: q.To, Date: d})
		two := plain(list).place(api.Quote{From: q.To, To: q.From, Date: d})
		if one >= 0 && two >= 0 {
			return list[one].Rate, list[two].Rate, true
		}
		if one >= 0 || two >= 0 {
			return 0, 0, false
		}
	}
	return 0, 0, false
}

// answer is what Rate told.
type answer struct {
	rate string
	err  api.Errno
}

func ask(x *exchange.Table, from, to string, d api.Date) answer {
	r, e := x.Rate(from, to, d)
	return answer{ratOf(r).String(), e}
}

// asked are all rates of the few currencies on the few days.
func asked(x *exchange.Table) map[api.Quote]answer {
	all := map[api.Quote]answer{}
	for from := range 4 {
		for to := range 4 {
			for d := range api.Date(32) {
				all[api.Quote{From: code(from), To: code(to), Date: d}] = ask(x, code(from), code(to), d)
			}
		}
	}
	return all
}

// P16.5: a quote changes no rate of an earlier day, and none between other
// currencies; and of its own day it does tell.
func TestLaterAndOthersStay(t *testing.T) {
	roll := dice(43)
	for _, list := range someTables() {
		x := table(t, list...)
		for range 6 {
			q := roll.quote(4, 30)
			before := asked(x)
			if e := x.Put(q); e != api.OK {
				t.Fatal(e)
			}
			for key, now := range asked(x) {
				same := key.From == q.From && key.To == q.To || key.From == q.To && key.To == q.From
				if (!same || key.Date < q.Date) && now != before[key] {
					t.Fatalf("Put(%v) has changed %v: %v, %v", q, key, before[key], now)
				}
			}
			wantRate(t, x, q.From, q.To, q.Date, new(big.Rat).SetFloat64(q.Rate))
		}
	}
}

// P16.5: quotes of unlike keys may be put in any order.
func TestAnyOrder(t *testing.T) {
	roll := dice(47)
	small := example()
	for _, at := range [][]int{{0, 1, 2, 3}, {3, 2, 1, 0}, {2, 0, 3, 1}, {1, 3, 0, 2}, {1, 2, 0, 3}} {
		wantTable(t, table(t, small[at[0]], small[at[1]], small[at[2]], small[at[3]]), small)
	}
	for _, list := range append(someTables(), manyShapes(100)...) {
		for range 4 {
			wantTable(t, table(t, roll.mixed(list)...), list)
		}
		back := slices.Clone(list)
		slices.Reverse(back)
		wantTable(t, table(t, back...), list)
	}
}

// P16.5: what Quotes tells, put to a new table, makes the same one, a full one
// too; and putting it to its own table changes nothing.
func TestQuotesMakeTheSame(t *testing.T) {
	for _, list := range append(someTables(), manyShapes(500)...) {
		x := table(t, list...)
		wantTable(t, table(t, x.Quotes()...), list)
		for _, q := range x.Quotes() {
			if e := x.Put(q); e != api.OK {
				t.Fatalf("Put(%v): error %d", q, e)
			}
		}
		wantTable(t, x, list)
	}
	for _, list := range manyShapes(most) {
		full := table(t, table(t, list...).Quotes()...)
		wantQuotes(t, full, plain(list).sorted())
		if e := full.Put(api.Quote{From: "EUR", To: "USD", Rate: 1}); e != api.ErrFull {
			t.Errorf("error %d", e)
		}
	}
}
