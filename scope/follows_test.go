package scope_test

import (
	"slices"
	"strings"
	"testing"

	"tollbook/api"
	"tollbook/rules"
	"tollbook/scope"
)

// place, tax and the others are short names, most of them of what there is.
func (d *dice) place() string { return d.one("w", "w", "a", "a", "b", "b", "b", "c", "o", "p") }
func (d *dice) tax() string   { return d.one("t", "u", "v", "y", "z") }
func (d *dice) coin() string  { return d.one("EUR", "EUR", "USD", "JPY", "XAU") }

func (d *dice) class() string {
	return d.one("", "", "", " for food", " for food.bread", " for food.bread.rye", " for book")
}

func (d *dice) span() string {
	from := api.Date(d.below(12))
	return d.one("", "", "", during(0, 1+api.Date(d.below(12))), during(from, behind), during(from, from+1+api.Date(d.below(6))))
}

func (d *dice) names() string {
	list := []string{d.tax()}
	for d.below(2) == 0 {
		list = append(list, d.tax())
	}
	return strings.Join(list, ", ")
}

func (d *dice) when() string {
	return d.one("", " when buyer poor", " when buyer school and amount < 100", " when not line book or quantity > 3", " when line book", " when not buyer poor")
}

// line is a declaration; a place is none, as those of start do.
func (d *dice) line() string {
	switch d.below(10) {
	case 0, 1, 2:
		return "tax " + d.tax() + " in " + d.place() + " round " + d.one("line", "invoice") + d.one(" up", " even", " ceil") + d.one("", " on "+d.names()) + d.one("", " instead "+d.names()) + ";"
	case 3, 4, 5, 6:
		return "rate " + d.tax() + d.class() + d.span() + " " + d.one("0", "5", "7.5", "20") + "%" + d.one("", "", ", 30% above 100", ", 30% above 2.5, 1% above 99.999") + ";"
	case 7:
		return "exempt " + d.tax() + d.class() + d.span() + d.when() + ";"
	default:
		return "least " + d.tax() + d.span() + d.one(" 0;", " 5;", " 12.5;", " 0.0001;")
	}
}

// book is one that may be: what would not go with what is ahead of it is left out.
func (d *dice) book(t *testing.T) plain {
	t.Helper()
	p := decls(t, start+"tax v in w round line up; rate v 5%; tax u in b round line up"+d.one("", " instead v")+"; rate u for food 1%; tax t in a round invoice up; rate t 3%, 4% above 10;")
	for range 5 + d.below(25) {
		more := append(slices.Clone(p), decls(t, d.line())...)
		if _, fault := rules.Of(more); fault == (api.Fault{}) {
			p = more
		}
	}
	return p
}

// quotes are some, there and back.
func (d *dice) quotes() quotes {
	var l quotes
	keys := map[[2]string][]api.Date{}
	for range d.below(12) {
		q := api.Quote{From: d.coin(), To: d.coin(), Date: api.Date(d.below(12)), Rate: float64(1+d.below(5000)) / 1000}
		key := [2]string{q.From, q.To}
		if q.From != q.To && !slices.Contains(keys[key], q.Date) {
			l = append(l, q)
			keys[key] = append(keys[key], q.Date)
		}
	}
	return l
}

// words rise.
func (d *dice) words(of ...string) []string {
	var list []string
	for _, word := range of {
		if d.below(2) == 0 {
			list = append(list, word)
		}
	}
	return list
}

// ask may be asked.
func (d *dice) ask() api.Ask {
	q := api.Ask{
		Place: d.place(), Date: api.Date(d.below(14)), Class: d.one("food", "food.bread", "food.bread.rye", "book", "x", "foods"), Currency: d.coin(),
		Buyer: d.words("poor", "school"), Traits: d.words("book", "old"), Amount: int64(d.below(30000)), Quantity: int64(1 + d.below(6)),
	}
	for _, place := range []string{"a", "b", "p", "q", "w"} {
		for _, code := range []string{"EUR", "JPY", "USD", "XAU"} {
			if d.below(3) == 0 {
				q.Sales = append(q.Sales, sale(place, code, int64(d.below(3000)-500)))
			}
		}
	}
	return q
}

// P20.1 to P20.3: books, tables and questions without an order.
func TestMixed(t *testing.T) {
	t.Parallel()
	roll := dice(2020)
	apply := 0
	for range 200 {
		b := bookOf(t, roll.book(t), roll.quotes())
		for range 40 {
			q := roll.ask()
			b.want(t, q)
			if names, _ := scope.Names(b.model, q); len(names) > 1 {
				apply++
			}
		}
	}
	if apply < 500 {
		t.Errorf("only %d questions have two taxes or more", apply)
	}
}

// P20.1: questions of which each part is wrong now and then.
func TestMixedWrong(t *testing.T) {
	t.Parallel()
	roll := dice(2021)
	b := textBook(t, example)
	var all []change
	for _, c := range wrongs() {
		all = append(all, c.list...)
	}
	for range 3000 {
		q := ask("ny", "food")
		for range roll.below(4) {
			all[roll.below(len(all))](&q)
		}
		b.want(t, q)
	}
}

// P20.4: each place in On is below its own, and each bound above the one ahead.
func TestOnIsBelow(t *testing.T) {
	roll := dice(4)
	for range 100 {
		b := bookOf(t, roll.book(t), roll.quotes())
		for range 20 {
			list, _ := scope.Resolve(b.model, b.table, roll.ask())
			for at, a := range list {
				for i, on := range a.On {
					if on < 0 || on >= at || i > 0 && a.On[i-1] >= on {
						t.Fatal(a)
					}
				}
			}
		}
	}
}

// without is the book in which of that tax nothing is said, nor is it named.
func (p plain) without(tax string) plain {
	var list plain
	isTax := func(name string) bool { return name == tax }
	for _, d := range p {
		if d.Kind < api.DeclTax || d.Name != tax {
			d.On = slices.DeleteFunc(slices.Clone(d.On), isTax)
			d.Instead = slices.DeleteFunc(slices.Clone(d.Instead), isTax)
			list = append(list, d)
		}
	}
	return list
}

// pieces are those of each tax that applies.
func pieces(list []api.Applied) map[string][]api.Piece {
	all := map[string][]api.Piece{}
	for _, a := range list {
		all[a.Tax] = a.Pieces
	}
	return all
}

// P20.4, P10: without a tax that is no candidate the whole answer is the same; without
// one that does not apply the pieces of the others are.
func TestIdleTaxes(t *testing.T) {
	t.Parallel()
	roll := dice(10)
	idle, shadowed := 0, 0
	for range 150 {
		p := roll.book(t)
		b := bookOf(t, p, someQuotes())
		for range 4 {
			q := roll.ask()
			list, e := scope.Resolve(b.model, b.table, q)
			names := p.applying(q)
			for _, tax := range p.order() {
				if e != api.OK || slices.Contains(names, tax) {
					continue
				}
				less := bookOf(t, p.without(tax), someQuotes())
				got, e := scope.Resolve(less.model, less.table, q)
				if !p.isCandidate(tax, q) {
					idle++
					if !isSame(got, list) || e != api.OK {
						t.Fatalf("%s: without %s %v, %d, with it %v", told(p), tax, got, e, list)
					}
					continue
				}
				shadowed++
				for _, a := range got {
					if was, is := pieces(list)[a.Tax]; is && !isSame([]api.Applied{{Pieces: was}}, []api.Applied{{Pieces: a.Pieces}}) {
						t.Fatalf("%s: without %s %v, with it %v", told(p), tax, got, list)
					}
				}
			}
		}
	}
	if idle < 100 || shadowed < 20 {
		t.Errorf("only %d taxes are idle, %d shadowed", idle, shadowed)
	}
}

// P20.4: taxes in places that are not over the question's, which no tax names, play no
// part.
func TestOtherPlaces(t *testing.T) {
	t.Parallel()
	roll := dice(44)
	for range 100 {
		b := bookOf(t, roll.book(t), roll.quotes())
		more := append(slices.Clone(b.plain), decls(t, `place aa in a; place bb in b money JPY; tax ta in aa round line up on v instead v, u; tax tb in bb round line up instead t, v, u;
			rate ta 5%, 6% above 7; rate tb 1%, 2% above 3; exempt ta when buyer poor; least tb 0;`)...)
		for _, d := range []string{"currency CHF 1;", "place s money CHF; tax ts in s round line up instead t, u, v; rate ts 5%;"} {
			more = append(more, decls(t, d)...)
		}
		other := bookOf(t, more, b.quotes)
		for range 20 {
			q := roll.ask()
			list, e := scope.Resolve(b.model, b.table, q)
			got, f := scope.Resolve(other.model, other.table, q)
			if !isSame(got, list) || e != f {
				t.Fatalf("%s: %v: %v, %d, with more %v, %d", told(b.plain), q, list, e, got, f)
			}
		}
	}
}

// P20.4: whatever the amount is, the answer is the same where no condition speaks of
// it.
func TestWhateverTheAmount(t *testing.T) {
	t.Parallel()
	roll := dice(444)
	many := 0
	for range 150 {
		p := roll.book(t)
		if strings.Contains(told(p), "amount") {
			continue
		}
		many++
		b := bookOf(t, p, roll.quotes())
		for range 10 {
			q := roll.ask()
			list, e := scope.Resolve(b.model, b.table, q)
			for _, amount := range []int64{0, 1, 9999, 10000, 1 << 40, 1<<63 - 1} {
				q.Amount = amount
				if got, f := scope.Resolve(b.model, b.table, q); !isSame(got, list) || e != f {
					t.Fatalf("%s: %v: %v, %d, not %v, %d", told(p), q, got, f, list, e)
				}
			}
		}
	}
	if many < 20 {
		t.Errorf("only %d books", many)
	}
}

// P6: the book turned round has the same answers.
func TestTurnedRound(t *testing.T) {
	roll := dice(66)
	for range 60 {
		b := bookOf(t, roll.book(t), roll.quotes())
		turned := slices.Clone(b.plain)
		slices.Reverse(turned)
		other := bookOf(t, turned, b.quotes)
		for range 20 {
			q := roll.ask()
			b.want(t, q)
			other.want(t, q)
			list, _ := scope.Resolve(b.model, b.table, q)
			if got, _ := scope.Resolve(other.model, other.table, q); !isSame(got, list) {
				t.Fatalf("%s: %v: %v, not %v", told(b.plain), q, got, list)
			}
		}
	}
}
