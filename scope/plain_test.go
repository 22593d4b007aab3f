package scope_test

// What the tests hold the package against: a book's declarations as they stand, gone
// through from end to end for each question, and numbers of math/big. Nothing of the
// package is in it, nor of a model.

import (
	"math/big"
	"reflect"
	"slices"
	"strings"
	"testing"

	"tollbook/api"
	"tollbook/calendar"
	"tollbook/exchange"
	"tollbook/rules"
	"tollbook/scope"
	"tollbook/syntax"
	"tollbook/tokens"
	"tollbook/traits"
)

// behind is the first day that is none any more.
const behind = api.MaxDate + 1

// example is the chapter's book B.
const example = `currency EUR 2; currency USD 2; currency JPY 0;
place world money EUR; place us in world money USD; place ny in us; place oz money JPY;
tax vat in world round invoice up; tax city in ny round line even on vat;
tax duty in us round line up instead vat; tax sun in oz round line up;
rate vat 20%; rate vat for food 5%; rate city 1%, 2% above 100; rate duty for gold 7%; rate sun 3%;
exempt vat for food when buyer poor; least city 1000;
`

// document is the book H of the document's examples.
const document = `currency EUR 2; currency JPY 0; currency USD 2;
place berlin in de; place de in eu; place eu money EUR; place us money USD;
tax city in berlin round line even on vat; tax duty in eu round line up; tax vat in de round invoice up;
rate city 2%, 5% above 100; rate duty for wine 0%, 10% above 20;
rate vat for food from 2020-01-01 to 2024-01-01 7%; rate vat from 2020-01-01 19%;
exempt vat for food when buyer school; least city 1000;
`

// start has what a small book needs; w is a root, with a within it, b within a, and c
// beside a; o is another root.
const start = `currency EUR 2; currency USD 2; currency JPY 0; currency XAU 4;
place w money EUR; place a in w; place b in a money USD; place c in w; place o money JPY; place p in o money XAU;
`

// plain is a book's declarations.
type plain []api.Decl

// quotes are those of a table.
type quotes []api.Quote

func (p plain) find(kind api.DeclKind, name string) (api.Decl, bool) {
	for _, d := range p {
		if d.Kind == kind && d.Name == name {
			return d, true
		}
	}
	return api.Decl{}, false
}

func (p plain) isThere(kind api.DeclKind, name string) bool {
	_, is := p.find(kind, name)
	return is
}

// over are a place and all that lie over it.
func (p plain) over(place string) []string {
	var list []string
	for place != "" {
		list = append(list, place)
		d, _ := p.find(api.DeclPlace, place)
		place = d.In
	}
	return list
}

func (p plain) currency(code string) api.Currency {
	d, _ := p.find(api.DeclCurrency, code)
	return api.Currency{Name: d.Name, Digits: d.Digits}
}

func (p plain) money(place string) api.Currency {
	for _, over := range p.over(place) {
		if d, _ := p.find(api.DeclPlace, over); d.Money != "" {
			return p.currency(d.Money)
		}
	}
	panic("a place without money")
}

// order tells one tax behind the other: the least one that stands on no other one
// than those that are told.
func (p plain) order() []string {
	var left, list []string
	for _, d := range p {
		if d.Kind == api.DeclTax {
			left = append(left, d.Name)
		}
	}
	slices.Sort(left)
	for len(left) > 0 {
		at := slices.IndexFunc(left, func(tax string) bool {
			d, _ := p.find(api.DeclTax, tax)
			return !slices.ContainsFunc(d.On, func(on string) bool { return !slices.Contains(list, on) })
		})
		list = append(list, left[at])
		left = slices.Delete(left, at, at+1)
	}
	return list
}

// holding are the declarations of a kind that hold for a tax, for a class, on a day.
func (p plain) holding(kind api.DeclKind, tax, class string, d api.Date) plain {
	var list plain
	for _, x := range p {
		covers := x.Class == "" || strings.HasPrefix(class+".", x.Class+".")
		if x.Kind == kind && x.Name == tax && covers && x.Span.From <= d && d < x.Span.To {
			list = append(list, x)
		}
	}
	return list
}

// rate is that of the longest class.
func (p plain) rate(tax string, q api.Ask) []api.Bracket {
	var rate []api.Bracket
	long := -1
	for _, x := range p.holding(api.DeclRate, tax, q.Class, q.Date) {
		if len(x.Class) > long {
			rate, long = x.Brackets, len(x.Class)
		}
	}
	return rate
}

func (p plain) isExempt(tax string, q api.Ask) bool {
	f := api.Facts{Buyer: q.Buyer, Line: q.Traits, Amount: q.Amount, Digits: p.currency(q.Currency).Digits, Quantity: q.Quantity}
	return slices.ContainsFunc(p.holding(api.DeclExempt, tax, q.Class, q.Date), func(x api.Decl) bool {
		holds, err := traits.Holds(x.When, f)
		return holds && err == api.OK
	})
}

func ten(n int) *big.Rat {
	return new(big.Rat).SetInt(new(big.Int).Exp(big.NewInt(10), big.NewInt(int64(n)), nil))
}

// worth is so many units over ten to the power places.
func worth(units int64, places int) *big.Rat {
	return new(big.Rat).Quo(new(big.Rat).SetInt64(units), ten(places))
}

func (p plain) isTooLittle(tax api.Decl, q api.Ask) bool {
	list := p.holding(api.DeclLeast, tax.Name, q.Class, q.Date)
	if len(list) == 0 {
		return false
	}
	c := p.money(tax.In)
	var sold int64
	for _, s := range q.Sales {
		if s.Place == tax.In && s.Money == c.Name {
			sold = s.Units
		}
	}
	return worth(sold, c.Digits).Cmp(worth(list[0].Least.Units, list[0].Least.Places)) < 0
}

func (p plain) isCandidate(tax string, q api.Ask) bool {
	d, _ := p.find(api.DeclTax, tax)
	return slices.Contains(p.over(q.Place), d.In) && len(p.rate(tax, q)) > 0 && !p.isExempt(tax, q) && !p.isTooLittle(d, q)
}

func (p plain) isShadowed(tax string, q api.Ask) bool {
	return slices.ContainsFunc(p, func(d api.Decl) bool {
		return d.Kind == api.DeclTax && slices.Contains(d.Instead, tax) && p.isCandidate(d.Name, q)
	})
}

// applying are the names of those that apply.
func (p plain) applying(q api.Ask) []string {
	var list []string
	for _, tax := range p.order() {
		if p.isCandidate(tax, q) && !p.isShadowed(tax, q) {
			list = append(list, tax)
		}
	}
	return list
}

func mayBeTraits(list []string) bool {
	for i, word := range list {
		if !tokens.Word(word) || i > 0 && list[i-1] >= word {
			return false
		}
	}
	return len(list) <= 16
}

func doRise(sales []api.Sale) bool {
	for i, s := range sales {
		if i > 0 && !(sales[i-1].Place < s.Place || sales[i-1].Place == s.Place && sales[i-1].Money < s.Money) {
			return false
		}
	}
	return true
}

// err is that of Names.
func (p plain) err(q api.Ask) api.Errno {
	_, errClass := traits.Class(q.Class)
	for _, c := range []struct {
		is  bool
		err api.Errno
	}{
		{!p.isThere(api.DeclPlace, q.Place), api.ErrPlace},
		{q.Date < 0 || q.Date >= behind, api.ErrDate},
		{errClass != api.OK, api.ErrClass},
		{!p.isThere(api.DeclCurrency, q.Currency), api.ErrCurrency},
		{!mayBeTraits(q.Buyer) || !mayBeTraits(q.Traits), api.ErrTrait},
		{q.Amount < 0 || q.Quantity < 1 || q.Quantity > 1000000 || !doRise(q.Sales), api.ErrArg},
	} {
		if c.is {
			return c.err
		}
	}
	names, many := p.applying(q), 0
	for _, tax := range names {
		many += len(p.rate(tax, q))
	}
	if len(names) > 8 || many > 24 {
		return api.ErrLong
	}
	return api.OK
}

// names is P20.2.
func (p plain) names(q api.Ask) ([]string, api.Errno) {
	if err := p.err(q); err != api.OK {
		return nil, err
	}
	return p.applying(q), api.OK
}

// rate is that of the newest quote, there or back; nil, if there is none.
func (l quotes) rate(from, to string, d api.Date) *big.Rat {
	newest := api.Date(-1)
	var rate *big.Rat
	for _, q := range l {
		if q.Date > d {
			continue
		}
		exact := new(big.Rat).SetFloat64(q.Rate)
		if q.From == from && q.To == to && q.Date >= newest {
			newest, rate = q.Date, exact
		}
		if q.From == to && q.To == from && q.Date > newest {
			newest, rate = q.Date, exact.Inv(exact)
		}
	}
	return rate
}

// unit is that of P20.3; nil, if there is no rate.
func (p plain) unit(l quotes, tax string, q api.Ask) *big.Rat {
	d, _ := p.find(api.DeclTax, tax)
	c := p.money(d.In)
	switch {
	case len(p.rate(tax, q)) == 1:
		return ten(0)
	case c.Name == q.Currency:
		return ten(c.Digits)
	}
	rate := l.rate(q.Currency, c.Name, q.Date)
	if rate == nil {
		return nil
	}
	return new(big.Rat).Quo(ten(p.currency(q.Currency).Digits), rate)
}

// resolve is P20.3.
func (p plain) resolve(l quotes, q api.Ask) ([]api.Applied, api.Errno) {
	names, err := p.names(q)
	if err != api.OK {
		return nil, err
	}
	var list []api.Applied
	for _, tax := range names {
		d, _ := p.find(api.DeclTax, tax)
		unit := p.unit(l, tax, q)
		if unit == nil {
			return nil, api.ErrRate
		}
		a := api.Applied{Tax: tax, Place: d.In, Money: p.money(d.In).Name, Policy: d.Policy, Mode: d.Mode}
		for at, other := range names {
			if slices.Contains(d.On, other) {
				a.On = append(a.On, at)
			}
		}
		for _, b := range p.rate(tax, q) {
			above := worth(b.Above.Units, b.Above.Places)
			percent := worth(b.Percent.Units, b.Percent.Places+2)
			a.Pieces = append(a.Pieces, api.Piece{Above: ratio(above.Mul(above, unit)), Rate: ratio(percent)})
		}
		list = append(list, a)
	}
	return list, api.OK
}

// limbs has the lowest limb first, and no nought at its end.
func limbs(n *big.Int) []uint64 {
	var list []uint64
	for n = new(big.Int).Abs(n); n.Sign() > 0; n.Rsh(n, 64) {
		list = append(list, new(big.Int).And(n, new(big.Int).SetUint64(1<<64-1)).Uint64())
	}
	return list
}

// ratio is a number's normal ratio.
func ratio(r *big.Rat) api.Ratio {
	return api.Ratio{Neg: r.Sign() < 0, Num: limbs(r.Num()), Den: limbs(r.Denom())}
}

// tidy has nil in the place of each empty list, as both are one.
func tidy(list []api.Applied) []api.Applied {
	var all []api.Applied
	for _, a := range list {
		a.On = append([]int(nil), a.On...)
		a.Pieces = append([]api.Piece(nil), a.Pieces...)
		for i := range a.Pieces {
			for _, r := range []*api.Ratio{&a.Pieces[i].Above, &a.Pieces[i].Rate} {
				r.Num, r.Den = append([]uint64(nil), r.Num...), append([]uint64(nil), r.Den...)
			}
		}
		all = append(all, a)
	}
	return all
}

func isSame(a, b []api.Applied) bool {
	return reflect.DeepEqual(tidy(a), tidy(b))
}

func decls(t *testing.T, src string) plain {
	t.Helper()
	list, spot := syntax.Parse(src)
	if spot != (api.Spot{}) {
		t.Fatalf("%.900s: %v", src, spot)
	}
	return list
}

func told(p plain) string {
	text, _ := syntax.Print(p)
	return strings.ReplaceAll(text, "\n", " ")
}

func model(t *testing.T, p plain) *rules.Model {
	t.Helper()
	m, fault := rules.Of(p)
	if fault != (api.Fault{}) {
		t.Fatalf("%.900s: %v", told(p), fault)
	}
	return m
}

func table(t *testing.T, l quotes) *exchange.Table {
	t.Helper()
	x := exchange.New()
	for _, q := range l {
		if err := x.Put(q); err != api.OK {
			t.Fatal(q, err)
		}
	}
	return x
}

// someQuotes are the chapter's, and those of other moneys, there and back.
func someQuotes() quotes {
	return quotes{
		{From: "EUR", To: "USD", Rate: 1.25},
		{From: "JPY", To: "EUR", Date: 3, Rate: 0.007},
		{From: "JPY", To: "EUR", Date: 9, Rate: 1.0 / (1 << 20)},
		{From: "USD", To: "EUR", Date: 7, Rate: 0.1},
		{From: "EUR", To: "USD", Date: 7, Rate: 3},
		{From: "XAU", To: "USD", Date: 4, Rate: 1 << 20},
		{From: "XAU", To: "EUR", Date: 2, Rate: 1999.99},
	}
}

// book is declarations, the model and the table that are asked.
type book struct {
	plain  plain
	quotes quotes
	model  *rules.Model
	table  *exchange.Table
}

func bookOf(t *testing.T, p plain, l quotes) book {
	t.Helper()
	return book{p, l, model(t, p), table(t, l)}
}

func textBook(t *testing.T, src string) book {
	t.Helper()
	return bookOf(t, decls(t, src), someQuotes())
}

// ask is a question that may be asked, in EUR, on day 5.
func ask(place, class string, sales ...api.Sale) api.Ask {
	return api.Ask{Place: place, Date: 5, Class: class, Currency: "EUR", Amount: 100, Quantity: 1, Sales: sales}
}

func sale(place, code string, units int64) api.Sale {
	return api.Sale{Place: place, Money: code, Units: units}
}

// want asks for what the plain way answers.
func (b book) want(t *testing.T, q api.Ask) {
	t.Helper()
	names, err := b.plain.names(q)
	if got, e := scope.Names(b.model, q); !slices.Equal(got, names) || e != err {
		t.Fatalf("%.1500s: Names(%v): %v, %d, not %v, %d", told(b.plain), q, got, e, names, err)
	}
	list, err := b.plain.resolve(b.quotes, q)
	if got, e := scope.Resolve(b.model, b.table, q); !isSame(got, list) || e != err {
		t.Fatalf("%.1500s: Resolve(%v): %v, %d, not %v, %d", told(b.plain), q, got, e, list, err)
	}
}

// wantNames asks for these names, as a text with blanks between, of both calls, and
// holds them against the plain way.
func (b book) wantNames(t *testing.T, q api.Ask, want string) {
	t.Helper()
	b.want(t, q)
	if got, e := scope.Names(b.model, q); strings.Join(got, " ") != want || e != api.OK {
		t.Errorf("%.1500s: Names(%v): %v, %d, not %s", told(b.plain), q, got, e, want)
	}
	if list, e := scope.Resolve(b.model, b.table, q); e == api.OK && namesIn(list) != want {
		t.Errorf("%.1500s: Resolve(%v): %v, not %s", told(b.plain), q, list, want)
	}
}

// namesIn are the names of what applies.
func namesIn(list []api.Applied) string {
	var names []string
	for _, a := range list {
		names = append(names, a.Tax)
	}
	return strings.Join(names, " ")
}

// wantErr asks both calls for an error.
func (b book) wantErr(t *testing.T, q api.Ask, want api.Errno) {
	t.Helper()
	names, e := scope.Names(b.model, q)
	list, f := scope.Resolve(b.model, b.table, q)
	if e != want || f != want || names != nil || list != nil {
		t.Errorf("%.200v: %v, %d, %v, %d, not %d", q, names, e, list, f, want)
	}
	if err := b.plain.err(q); err != want {
		t.Errorf("%.200v: the plain way has %d, not %d", q, err, want)
	}
}

// day is a day as it is written in a book.
func day(d api.Date) string {
	text, _ := calendar.Text(d)
	return text
}

// during is a span as it is written, for the days from one on, up to the one ahead
// of another.
func during(from, to api.Date) string {
	if to == behind {
		return " from " + day(from)
	}
	return " from " + day(from) + " to " + day(to)
}

// dice tells numbers without an order, the same ones in every run.
type dice uint64

func (d *dice) below(n int) int {
	*d ^= *d << 13
	*d ^= *d >> 7
	*d ^= *d << 17
	return int(uint64(*d) % uint64(n))
}

func (d *dice) one(of ...string) string { return of[d.below(len(of))] }

// The plain ways are themselves held against what the chapter says.
func TestPlain(t *testing.T) {
	p := decls(t, example)
	q := ask("ny", "food", sale("ny", "USD", 100000))
	if !slices.Equal(p.order(), []string{"duty", "sun", "vat", "city"}) || !slices.Equal(p.applying(q), []string{"vat", "city"}) {
		t.Error(p.order(), p.applying(q))
	}
	list, err := p.resolve(someQuotes(), q)
	if err != api.OK || len(list) != 2 || !isSame(list[1:], []api.Applied{cityOf(8000)}) {
		t.Error(list, err)
	}
	q.Currency = "JPY"
	if _, err := p.resolve(nil, q); err != api.ErrRate {
		t.Error(err)
	}
	l := someQuotes()
	for _, c := range []struct {
		from, to string
		d        api.Date
		want     *big.Rat
	}{
		{"EUR", "USD", 0, big.NewRat(5, 4)}, {"USD", "EUR", 6, big.NewRat(4, 5)}, {"EUR", "USD", 7, big.NewRat(3, 1)},
		{"USD", "EUR", 7, new(big.Rat).SetFloat64(0.1)}, {"EUR", "JPY", 9, big.NewRat(1<<20, 1)}, {"JPY", "EUR", 2, nil}, {"JPY", "USD", 9, nil},
	} {
		if got := l.rate(c.from, c.to, c.d); (got == nil) != (c.want == nil) || got != nil && got.Cmp(c.want) != 0 {
			t.Error(c, got)
		}
	}
}

// cityOf is the chapter's tax city, where 100 of its money are so many units.
func cityOf(units int64) api.Applied {
	return api.Applied{Tax: "city", Place: "ny", Money: "USD", Policy: api.ByLine, Mode: api.ModeEven, On: []int{0}, Pieces: []api.Piece{
		{Above: ratio(worth(0, 0)), Rate: ratio(worth(1, 2))},
		{Above: ratio(worth(units, 0)), Rate: ratio(worth(1, 0).SetFrac64(1, 50))},
	}}
}
