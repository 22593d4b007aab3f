package scope_test

import (
	"math/big"
	"slices"
	"testing"

	"tollbook/api"
	"tollbook/scope"
)

// P20.3: the chapter's example 3.
func TestResolveExample(t *testing.T) {
	b := textBook(t, example)
	q := ask("ny", "food", sale("ny", "USD", 100000))
	vat := api.Applied{Tax: "vat", Place: "world", Money: "EUR", Policy: api.ByInvoice, Mode: api.ModeUp, Pieces: []api.Piece{{Above: ratio(worth(0, 0)), Rate: ratio(big.NewRat(1, 20))}}}
	b.wantList(t, q, vat, cityOf(8000))
	q.Currency = "USD"
	b.wantList(t, q, vat, cityOf(10000))
	b.table, b.quotes = table(t, nil), nil
	b.wantList(t, q, vat, cityOf(10000))
	for _, code := range []string{"EUR", "JPY"} {
		q.Currency = code
		b.wantNoRate(t, q)
	}
	// vat has one bracket: of it the table is asked nothing.
	q.Sales = nil
	b.wantList(t, q, vat)
}

// wantList asks for what applies, and holds it against the plain way.
func (b book) wantList(t *testing.T, q api.Ask, want ...api.Applied) {
	t.Helper()
	b.want(t, q)
	if got, e := scope.Resolve(b.model, b.table, q); !isSame(got, want) || e != api.OK {
		t.Errorf("%v: %v, %d, not %v", q, got, e, want)
	}
}

// wantNoRate asks for ErrRate, which Names does not know.
func (b book) wantNoRate(t *testing.T, q api.Ask) {
	t.Helper()
	b.want(t, q)
	if got, e := scope.Resolve(b.model, b.table, q); got != nil || e != api.ErrRate {
		t.Errorf("%v: %v, %d", q, got, e)
	}
	if _, e := scope.Names(b.model, q); e != api.OK {
		t.Errorf("%v: %d", q, e)
	}
}

// wantBounds asks for the bounds of the one tax that applies, as texts.
func (b book) wantBounds(t *testing.T, q api.Ask, want ...string) {
	t.Helper()
	b.want(t, q)
	list, e := scope.Resolve(b.model, b.table, q)
	if e != api.OK || len(list) != 1 || len(list[0].Pieces) != len(want) {
		t.Fatalf("%v: %v, %d", q, list, e)
	}
	for i, text := range want {
		r, ok := new(big.Rat).SetString(text)
		if !ok || !isSameRatio(list[0].Pieces[i].Above, ratio(r)) {
			t.Errorf("%v: the bound %d is %v, not %s", q, i, list[0].Pieces[i].Above, text)
		}
	}
}

func isSameRatio(a, b api.Ratio) bool {
	return a.Neg == b.Neg && slices.Equal(a.Num, b.Num) && slices.Equal(a.Den, b.Den)
}

// P20.3: each tax tells its own place, money, policy and mode.
func TestOfATax(t *testing.T) {
	b := textBook(t, start+`tax t in w round line floor; tax u in a round invoice ceil; tax v in b round line up; tax y in b round invoice down; tax z in a round invoice even;
		rate t 1%; rate u 2%; rate v 0%; rate y 100%; rate z 0.5%;`)
	one := func(percent int64, places int) []api.Piece {
		return []api.Piece{{Above: ratio(worth(0, 0)), Rate: ratio(worth(percent, places+2))}}
	}
	b.wantList(t, ask("b", "x"),
		api.Applied{Tax: "t", Place: "w", Money: "EUR", Policy: api.ByLine, Mode: api.ModeFloor, Pieces: one(1, 0)},
		api.Applied{Tax: "u", Place: "a", Money: "EUR", Policy: api.ByInvoice, Mode: api.ModeCeil, Pieces: one(2, 0)},
		api.Applied{Tax: "v", Place: "b", Money: "USD", Policy: api.ByLine, Mode: api.ModeUp, Pieces: one(0, 0)},
		api.Applied{Tax: "y", Place: "b", Money: "USD", Policy: api.ByInvoice, Mode: api.ModeDown, Pieces: one(100, 0)},
		api.Applied{Tax: "z", Place: "a", Money: "EUR", Policy: api.ByInvoice, Mode: api.ModeEven, Pieces: one(5, 1)},
	)
}

// wantOn asks for the places in On, tax by tax.
func (b book) wantOn(t *testing.T, q api.Ask, want ...[]int) {
	t.Helper()
	b.want(t, q)
	list, e := scope.Resolve(b.model, b.table, q)
	if e != api.OK || len(list) != len(want) {
		t.Fatalf("%v: %v, %d", q, list, e)
	}
	for i, a := range list {
		if !slices.Equal(a.On, want[i]) {
			t.Errorf("%.900s: %s stands on %v, not %v", told(b.plain), a.Tax, a.On, want[i])
		}
	}
}

// P20.3: On has the places, in the answer, of those that a tax names and that apply;
// not of those on which these stand, and nothing of those that do not apply.
func TestOn(t *testing.T) {
	for _, c := range []struct {
		src  string
		want [][]int
	}{
		{"t w; u w on t", [][]int{nil, {0}}},
		{"t w on u; u w", [][]int{nil, {0}}},
		{"t w on u; u w on v; v w", [][]int{nil, {0}, {1}}},
		{"t w on v, u; u w on v; v w", [][]int{nil, {0}, {0, 1}}},
		{"t w; u w on y, v, t; v w; y w", [][]int{nil, nil, nil, {0, 1, 2}}},
		{"t w; u w on y, v, t; v c; y w", [][]int{nil, nil, {0, 1}}},
		{"t w; u w on y, v, t; v w; y w; exempt t", [][]int{nil, nil, {0, 1}}},
		{"t w; u w on y, v, t; v w instead y; y w", [][]int{nil, nil, {0, 1}}},
		{"t w; u w on y, v, t; v w instead y, t; y w", [][]int{nil, {0}}},
		{"t w; u w on y, v, t; v w instead y, t; y w; least v 1", [][]int{nil, nil, {0, 1}}},
		{"t c; u w on t", [][]int{nil}},
		{"t w on u; u c on v; v w", [][]int{nil, nil}},
		{"ta w; tb c; tc w; td w on ta, tb, tc", [][]int{nil, nil, {0, 1}}},
	} {
		textBook(t, short(c.src)).wantOn(t, ask("b", "x"), c.want...)
	}
}

const bounded = "; rate t 1%, 2% above 100, 0% above 100.5, 3% above 9223372036.854775807;"

// P20.3: bounds count in units of the question's currency: those of the tax's money by
// that currency's digits, others by the rate of the day, there or back.
func TestBounds(t *testing.T) {
	for place, code := range map[string]string{"w": "EUR", "b": "USD", "o": "JPY", "p": "XAU"} {
		b := textBook(t, start+"tax t in "+place+" round line up"+bounded)
		q := ask(place, "x")
		for d := range api.Date(12) {
			for _, currency := range []string{"EUR", "USD", "JPY", "XAU"} {
				q.Date, q.Currency = d, currency
				b.want(t, q)
			}
		}
		q.Currency = code
		many := map[string]string{"EUR": "100", "USD": "100", "JPY": "1", "XAU": "10000"}[code]
		times := func(text string) string {
			r, _ := new(big.Rat).SetString(text)
			by, _ := new(big.Rat).SetString(many)
			return r.Mul(r, by).String()
		}
		b.wantBounds(t, q, "0", times("100"), times("100.5"), times("9223372036.854775807"))
	}
}

// P20.3: the newest rate that is not above the day, one over it, where it is one the
// other way, and the digits of the question's currency, not of the tax's money.
func TestRatesOfExchange(t *testing.T) {
	l := quotes{{From: "EUR", To: "JPY", Date: 3, Rate: 160}, {From: "JPY", To: "EUR", Date: 6, Rate: 0.0078125}, {From: "USD", To: "JPY", Date: 3, Rate: 3}, {From: "EUR", To: "XAU", Rate: 0.5}}
	b := bookOf(t, decls(t, start+"tax t in o round line up; rate t 1%, 2% above 1000;"), l)
	q := ask("o", "x")
	for d, want := range []string{"", "", "", "625", "625", "625", "3125/4", "3125/4"} {
		q.Date = api.Date(d)
		if want == "" {
			b.wantNoRate(t, q)
			continue
		}
		b.wantBounds(t, q, "0", want)
	}
	q.Currency = "USD"
	b.wantBounds(t, q, "0", "100000/3")
	b = bookOf(t, decls(t, start+"tax t in w round line up; rate t 1%, 2% above 1000;"), l)
	q = ask("w", "x")
	for d, want := range []string{"", "", "", "160000", "160000", "160000", "128000", "128000"} {
		q.Date, q.Currency = api.Date(d), "JPY"
		if want == "" {
			b.wantNoRate(t, q)
		} else {
			b.wantBounds(t, q, "0", want)
		}
		q.Currency = "XAU"
		b.wantBounds(t, q, "0", "5000000")
	}
}

// P20.3: where one bracket stands alone, and where the currency is the tax's money,
// the table is asked nothing: one without a quote does.
func TestNothingAsked(t *testing.T) {
	b := bookOf(t, decls(t, start+`tax t in w round line up; rate t 1%; rate t for food 1%, 2% above 100; tax u in o round line up; rate u 1%; rate u for food 3%, 4% above 5;`), nil)
	for _, place := range []string{"w", "b", "o", "p"} {
		for _, code := range []string{"EUR", "USD", "JPY", "XAU"} {
			for _, class := range []string{"x", "food", "food.bread"} {
				q := ask(place, class)
				q.Currency = code
				own := "EUR"
				if place == "o" || place == "p" {
					own = "JPY"
				}
				if class == "x" || code == own {
					b.want(t, q)
					if list, e := scope.Resolve(b.model, b.table, q); len(list) != 1 || e != api.OK {
						t.Errorf("%v: %v, %d", q, list, e)
					}
					continue
				}
				b.wantNoRate(t, q)
			}
		}
	}
}

// P20.3: a rate that there is not, of the first tax, of the last one, of two; of a tax
// that does not apply none is asked for.
func TestNoRate(t *testing.T) {
	for _, c := range []struct {
		src string
		ok  bool
	}{
		{"tax t in b round line up; tax u in w round line up; tax v in b round line up; rate t 1%, 2% above 5; rate u 1%; rate v 1%;", false},
		{"tax t in b round line up; tax u in w round line up; tax v in b round line up; rate t 1%; rate u 1%, 2% above 5; rate v 1%;", true},
		{"tax t in b round line up; tax u in w round line up; tax v in b round line up; rate t 1%; rate u 1%; rate v 1%, 2% above 5;", false},
		{"tax t in b round line up; tax u in w round line up; tax v in p round line up; tax y in a round line up; tax z in b round line up; rate t 1%, 2% above 5; rate u 1%; rate v 1%; rate y 1%; rate z 2%, 1% above 5;", false},
		{"tax t in b round line up; tax u in w round line up; tax v in b round line up; rate t 1%; rate u 1%; rate v 1%, 2% above 5; exempt v;", true},
		{"tax t in b round line up; tax u in w round line up; tax v in b round line up; rate t 1%; rate u 1%; rate v 1%, 2% above 5; least v 1;", true},
		{"tax t in b round line up; tax u in w round line up instead v; tax v in b round line up; rate t 1%; rate u 1%; rate v 1%, 2% above 5;", true},
		{"tax t in b round line up; tax u in w round line up; tax v in p round line up; rate t 1%; rate u 1%; rate v 1%, 2% above 5;", true},
	} {
		b := bookOf(t, decls(t, start+c.src), nil)
		if !c.ok {
			b.wantNoRate(t, ask("b", "x"))
			continue
		}
		b.want(t, ask("b", "x"))
		if _, e := scope.Resolve(b.model, b.table, ask("b", "x")); e != api.OK {
			t.Errorf("%s: %d", c.src, e)
		}
	}
}

// P20.3, Limits: bounds and rates of exchange of as many bits as may be.
func TestLongNumbers(t *testing.T) {
	for _, rate := range []float64{1 << 20, 1.0 / (1 << 20), 1<<20 - 1.0/(1<<33), 1.0/(1<<20) + 1.0/(1<<60) + 1.0/(1<<72), 0.1, 1.0 / 3} {
		for _, l := range []quotes{{{From: "EUR", To: "XAU", Rate: rate}}, {{From: "XAU", To: "EUR", Rate: rate}}} {
			for _, place := range []string{"w", "p"} {
				b := bookOf(t, decls(t, start+"tax t in "+place+" round line up; rate t 1%, 0.000000001% above 0.000000001, 33.333333333% above 9223372036.854775807, 0.7% above 9223372036854775807;"), l)
				for _, code := range []string{"EUR", "XAU"} {
					q := ask(place, "x")
					q.Currency = code
					b.want(t, q)
					if list, e := scope.Resolve(b.model, b.table, q); e != api.OK || len(list) != 1 || len(list[0].Pieces) != 4 {
						t.Errorf("%v: %v, %d", q, list, e)
					}
				}
			}
		}
	}
}
