package rules_test

// What the tests hold the package against: a book's declarations as they stand, gone
// through from end to end for each question. Nothing of the package is in it.

import (
	"cmp"
	"slices"
	"strings"
	"testing"

	"tollbook/api"
	"tollbook/calendar"
	"tollbook/juris"
	"tollbook/rules"
	"tollbook/syntax"
	"tollbook/traits"
)

// behind is the first day that is none any more.
const behind = api.MaxDate + 1

// example is the chapter's book B.
const example = `currency EUR 2; currency USD 2;
place world money EUR; place us in world money USD; place ny in us;
tax vat in world round invoice up; tax city in ny round line even on vat;
rate vat 20%; rate vat for food 5%; rate vat for food.bread from 2024-02-01 0%;
rate city 1%, 2% above 100;
exempt vat for food when buyer poor; least city 1000;
`

// document is the book H of the document's examples.
const document = `currency EUR 2; currency JPY 0; currency USD 2;
place berlin in de; place de in eu; place eu money EUR; place us money USD;
tax city in berlin round line even on vat; tax duty in eu round line up; tax vat in de round invoice up;
rate city 2%, 5% above 100; rate duty for wine 0%, 10% above 20;
rate vat for food from 2020-01-01 to 2024-01-01 7%; rate vat from 2020-01-01 19%;
exempt vat for food when buyer school; least city 1000;
`

// start has what a small book needs.
const start = `currency EUR 2; place w money EUR; tax vat in w round line up;`

func decls(t *testing.T, src string) plain {
	t.Helper()
	list, spot := syntax.Parse(src)
	if spot != (api.Spot{}) {
		t.Fatalf("%.200s: %v", src, spot)
	}
	return list
}

func day(n int) string {
	text, _ := calendar.Text(api.Date(n))
	return text
}

// plain is a book's declarations.
type plain []api.Decl

func (p plain) has(kind api.DeclKind, name string) bool {
	return slices.ContainsFunc(p, func(d api.Decl) bool { return d.Kind == kind && d.Name == name })
}

func (p plain) find(kind api.DeclKind, name string) (api.Decl, bool) {
	for _, d := range p {
		if d.Kind == kind && d.Name == name {
			return d, true
		}
	}
	return api.Decl{}, false
}

func (p plain) names(kind api.DeclKind) []string {
	var list []string
	for _, d := range p {
		if d.Kind == kind {
			list = append(list, d.Name)
		}
	}
	slices.Sort(list)
	return list
}

// over are the place and all that lie over it; at most as many as there are
// declarations, and one, if it lies over itself.
func (p plain) over(d api.Decl) []api.Decl {
	list := []api.Decl{d}
	for d.In != "" && len(list) <= len(p) {
		d, _ = p.find(api.DeclPlace, d.In)
		list = append(list, d)
	}
	return list
}

// under are the taxes on which one stands, and those on which these do.
func (p plain) under(tax string) []string {
	var list []string
	for next := []string{tax}; len(next) > 0; next = next[1:] {
		d, _ := p.find(api.DeclTax, next[0])
		for _, on := range d.On {
			if !slices.Contains(list, on) {
				list = append(list, on)
				next = append(next, on)
			}
		}
	}
	return list
}

func isTwice(list []string) bool {
	sorted := slices.Sorted(slices.Values(list))
	return len(slices.Compact(sorted)) < len(list)
}

func meet(a, b api.Span) bool {
	return max(a.From, b.From) < min(a.To, b.To)
}

// hasTwice and those behind it tell whether the declaration at a place has that fault
// of P19.1, where none has one of those ahead.
func (p plain) hasTwice(at int) bool {
	d := p[at]
	return d.Kind <= api.DeclTax && p[:at].has(d.Kind, d.Name)
}

func (p plain) hasNoName(at int) bool {
	d := p[at]
	isWrong := func(tax string) bool { return tax == d.Name || !p.has(api.DeclTax, tax) }
	switch d.Kind {
	case api.DeclPlace:
		return d.In != "" && !p.has(api.DeclPlace, d.In) || d.Money != "" && !p.has(api.DeclCurrency, d.Money)
	case api.DeclTax:
		return !p.has(api.DeclPlace, d.In) || slices.ContainsFunc(d.On, isWrong) || slices.ContainsFunc(d.Instead, isWrong)
	}
	return d.Kind > api.DeclTax && !p.has(api.DeclTax, d.Name)
}

func (p plain) namesTwice(at int) bool {
	return isTwice(p[at].On) || isTwice(p[at].Instead)
}

func (p plain) isOnPlaceRing(at int) bool {
	if p[at].Kind != api.DeclPlace {
		return false
	}
	for _, d := range p.over(p[at])[1:] {
		if d.Name == p[at].Name {
			return true
		}
	}
	return false
}

func (p plain) isOnTaxRing(at int) bool {
	return p[at].Kind == api.DeclTax && slices.Contains(p.under(p[at].Name), p[at].Name)
}

func (p plain) hasNoMoney(at int) bool {
	if p[at].Kind != api.DeclPlace {
		return false
	}
	for _, d := range p.over(p[at]) {
		if d.Money != "" {
			return false
		}
	}
	return true
}

func (p plain) overlaps(kind api.DeclKind) func(at int) bool {
	return func(at int) bool {
		return p[at].Kind == kind && slices.ContainsFunc(p[:at], func(d api.Decl) bool {
			return d.Kind == kind && d.Name == p[at].Name && d.Class == p[at].Class && meet(d.Span, p[at].Span)
		})
	}
}

// fault is P19.1.
func (p plain) fault() api.Fault {
	if fault := syntax.Check(p); fault != (api.Fault{}) {
		return fault
	}
	for _, c := range []struct {
		err api.Errno
		has func(at int) bool
	}{
		{api.ErrTwice, p.hasTwice},
		{api.ErrLong, nil},
		{api.ErrName, p.hasNoName},
		{api.ErrTwice, p.namesTwice},
		{api.ErrRing, p.isOnPlaceRing},
		{api.ErrRing, p.isOnTaxRing},
		{api.ErrMoney, p.hasNoMoney},
		{api.ErrOverlap, p.overlaps(api.DeclRate)},
		{api.ErrOverlap, p.overlaps(api.DeclLeast)},
	} {
		if c.has == nil {
			if len(p.names(api.DeclCurrency)) > 16 {
				return api.Fault{Err: c.err, At: -1}
			}
			continue
		}
		for at := range p {
			if c.has(at) {
				return api.Fault{Err: c.err, At: at}
			}
		}
	}
	return api.Fault{}
}

func printed(d api.Decl) string {
	text, _ := syntax.Print([]api.Decl{d})
	return text
}

// canon is P19.2.
func (p plain) canon() []api.Decl {
	list := slices.Clone(p)
	slices.SortStableFunc(list, func(a, b api.Decl) int {
		return cmp.Or(cmp.Compare(a.Kind, b.Kind), cmp.Compare(printed(a), printed(b)))
	})
	return list
}

func (p plain) currency(name string) (api.Currency, bool) {
	d, ok := p.find(api.DeclCurrency, name)
	return api.Currency{Name: d.Name, Digits: d.Digits}, ok
}

func (p plain) money(place string) (api.Currency, bool) {
	d, ok := p.find(api.DeclPlace, place)
	if !ok {
		return api.Currency{}, false
	}
	for _, over := range p.over(d) {
		if over.Money != "" {
			return p.currency(over.Money)
		}
	}
	panic("a place without money")
}

// order tells one tax behind the other: the least one that stands on no other one
// than those that are told.
func (p plain) order() []string {
	var list []string
	left := p.names(api.DeclTax)
	for len(left) > 0 {
		at := slices.IndexFunc(left, func(tax string) bool {
			d, _ := p.find(api.DeclTax, tax)
			return !slices.ContainsFunc(d.On, func(on string) bool { return !slices.Contains(list, on) })
		})
		list = append(list, left[at])
		left = slices.Delete(left, at, at+1)
	}
	return list
}

func isClass(class string) bool {
	_, err := traits.Class(class)
	return err == api.OK
}

func (p plain) holding(kind api.DeclKind, tax, class string, d api.Date) plain {
	var list plain
	for _, x := range p {
		covers := x.Class == "" || strings.HasPrefix(class+".", x.Class+".")
		if x.Kind == kind && x.Name == tax && covers && x.Span.From <= d && d < x.Span.To {
			list = append(list, x)
		}
	}
	return list
}

func partsOf(class string) int {
	if class == "" {
		return 0
	}
	return 1 + strings.Count(class, ".")
}

// rate is P19.5.
func (p plain) rate(tax, class string, d api.Date) ([]api.Bracket, bool) {
	if !isClass(class) {
		return nil, false
	}
	list := p.holding(api.DeclRate, tax, class, d)
	if len(list) == 0 {
		return nil, false
	}
	return slices.MaxFunc(list, func(a, b api.Decl) int { return cmp.Compare(partsOf(a.Class), partsOf(b.Class)) }).Brackets, true
}

// exempt is P19.6.
func (p plain) exempt(tax, class string, d api.Date, f api.Facts) (bool, api.Errno) {
	switch {
	case !p.has(api.DeclTax, tax):
		return false, api.ErrName
	case !isClass(class):
		return false, api.ErrClass
	case d < 0 || d >= behind:
		return false, api.ErrDate
	case traits.Fit(f) != api.OK:
		return false, api.ErrTrait
	}
	return slices.ContainsFunc(p.holding(api.DeclExempt, tax, class, d), func(x api.Decl) bool {
		holds, _ := traits.Holds(x.When, f)
		return holds
	}), api.OK
}

// least is P19.7.
func (p plain) least(tax string, d api.Date) (api.Dec, bool) {
	list := p.holding(api.DeclLeast, tax, "x", d)
	if len(list) == 0 {
		return api.Dec{}, false
	}
	return list[0].Least, true
}

// asks is what a model is asked for.
type asks struct {
	names, classes []string
	days           []api.Date
	facts          []api.Facts
}

// someFacts may be, but for the last three.
func someFacts() []api.Facts {
	return []api.Facts{
		{},
		{Buyer: []string{"poor"}},
		{Buyer: []string{"poor", "school"}, Line: []string{"book"}, Amount: 1250, Digits: 2, Quantity: 3},
		{Line: []string{"poor"}, Amount: 100, Quantity: 1},
		{Buyer: []string{"school", "poor"}},
		{Digits: 5},
		{Quantity: -1},
	}
}

// asks are the names, classes and days that the declarations speak of, what is
// next to them, and wrong ones.
func (p plain) asks() asks {
	a := asks{
		names:   []string{"", "oz", "Vat", "a.b", "EUR", "vat "},
		classes: []string{"", "oz", "Food", "food.", ".", "food..bread", "food.rate"},
		days:    []api.Date{-1 << 62, -1, 0, 1, api.MaxDate - 1, api.MaxDate, behind, 1 << 62},
		facts:   someFacts(),
	}
	for _, d := range p {
		a.names = append(a.names, d.Name, d.In, d.Money)
		if d.Kind > api.DeclTax {
			a.days = append(a.days, d.Span.From-1, d.Span.From, d.Span.To-1, d.Span.To)
		}
		if d.Class != "" {
			a.classes = append(a.classes, d.Class, d.Class+".x", d.Class+"x", "x."+d.Class, d.Class[:max(0, strings.LastIndex(d.Class, "."))])
		}
	}
	for _, l := range []*[]string{&a.names, &a.classes} {
		slices.Sort(*l)
		*l = slices.Compact(*l)
	}
	slices.Sort(a.days)
	a.days = slices.Compact(a.days)
	return a
}

// model is what Of answers of a book that may be.
func model(t *testing.T, p plain) *rules.Model {
	t.Helper()
	m, fault := rules.Of(p)
	if m == nil || fault != (api.Fault{}) {
		t.Fatalf("refused: %v", fault)
	}
	return m
}

// wantFault asks that a book is refused so, and holds that against the plain way.
func wantFault(t *testing.T, p plain, err api.Errno, at int) {
	t.Helper()
	want := api.Fault{Err: err, At: at}
	if m, fault := rules.Of(p); m != nil || fault != want {
		t.Errorf("%.900s: fault %v, not %v", told(p), fault, want)
	}
	if p.fault() != want {
		t.Errorf("%.900s: the plain way has the fault %v, not %v", told(p), p.fault(), want)
	}
}

func told(p plain) string {
	text := ""
	for _, d := range p {
		text += strings.TrimSuffix(printed(d), "\n") + " "
	}
	return text
}

// wantOf asks for all that is told of a book.
func wantOf(t *testing.T, p plain) {
	t.Helper()
	want := p.fault()
	m, fault := rules.Of(p)
	if fault != want || (m == nil) != (want != api.Fault{}) {
		t.Fatalf("%.900s: fault %v, not %v", told(p), fault, want)
	}
	if m != nil {
		wantModel(t, m, p)
	}
}

func wantModel(t *testing.T, m *rules.Model, p plain) {
	t.Helper()
	a := p.asks()
	wantNames(t, m, p, a)
	wantTimes(t, m, p, a)
	wantExempt(t, m, p, a)
}

// wantNames asks for what does not hang on a day.
func wantNames(t *testing.T, m *rules.Model, p plain, a asks) {
	t.Helper()
	if got := m.Canon(); !syntax.Same(got, p.canon()) {
		t.Fatalf("%.900s: canon %.900s", told(p), told(got))
	}
	places := p.names(api.DeclPlace)
	if !slices.Equal(m.Places(), places) || !slices.Equal(m.Taxes(), p.names(api.DeclTax)) || !slices.Equal(m.Order(), p.order()) {
		t.Fatalf("%.900s: %v, %v, %v", told(p), m.Places(), m.Taxes(), m.Order())
	}
	wantTree(t, m.Tree(), p)
	for _, name := range a.names {
		wantCurrency, is := p.currency(name)
		if c, ok := m.Currency(name); c != wantCurrency || ok != is {
			t.Fatalf("%.900s: Currency(%s): %v, %v", told(p), name, c, ok)
		}
		at := slices.Index(places, name)
		if i, ok := m.Place(name); i != max(at, 0) || ok != (at >= 0) {
			t.Fatalf("%.900s: Place(%s): %d, %v", told(p), name, i, ok)
		}
		wantMoney, is := p.money(name)
		if c, ok := m.Money(name); c != wantMoney || ok != is {
			t.Fatalf("%.900s: Money(%s): %v, %v", told(p), name, c, ok)
		}
		wantTax, is := p.find(api.DeclTax, name)
		if d, ok := m.Tax(name); !syntax.Same([]api.Decl{d}, []api.Decl{wantTax}) || ok != is {
			t.Fatalf("%.900s: Tax(%s): %v, %v", told(p), name, d, ok)
		}
	}
}

func wantTree(t *testing.T, tree *juris.Tree, p plain) {
	t.Helper()
	places := p.names(api.DeclPlace)
	if tree.Len() != len(places) {
		t.Fatalf("%.900s: a tree of %d", told(p), tree.Len())
	}
	for i, name := range places {
		d, _ := p.find(api.DeclPlace, name)
		if parent, err := tree.Parent(i); parent != slices.Index(places, d.In) || err != api.OK {
			t.Fatalf("%.900s: Parent(%d): %d, %d", told(p), i, parent, err)
		}
	}
}

func wantTimes(t *testing.T, m *rules.Model, p plain, a asks) {
	t.Helper()
	for _, tax := range a.names {
		for _, d := range a.days {
			want, is := p.least(tax, d)
			if least, ok := m.Least(tax, d); least != want || ok != is {
				t.Fatalf("%.900s: Least(%s, %d): %v, %v", told(p), tax, d, least, ok)
			}
			for _, class := range a.classes {
				want, is := p.rate(tax, class, d)
				if got, ok := m.Rate(tax, class, d); !slices.Equal(got, want) || ok != is {
					t.Fatalf("%.900s: Rate(%s, %s, %d): %v, %v", told(p), tax, class, d, got, ok)
				}
			}
		}
	}
}

// wantExempt leaves out where two things at once are wrong.
func wantExempt(t *testing.T, m *rules.Model, p plain, a asks) {
	t.Helper()
	ask := func(tax, class string, d api.Date, f api.Facts) {
		t.Helper()
		want, wantErr := p.exempt(tax, class, d, f)
		if yes, err := m.Exempt(tax, class, d, f); yes != want || err != wantErr {
			t.Fatalf("%.900s: Exempt(%s, %s, %d, %v): %v, %d", told(p), tax, class, d, f, yes, err)
		}
	}
	for _, tax := range a.names {
		for _, class := range a.classes {
			if !p.has(api.DeclTax, tax) || !isClass(class) {
				ask(tax, class, 0, api.Facts{})
				continue
			}
			for _, d := range a.days {
				if d < 0 || d >= behind {
					ask(tax, class, d, api.Facts{})
					continue
				}
				for _, f := range a.facts {
					ask(tax, class, d, f)
				}
			}
		}
	}
}

// dice tells numbers without an order, the same ones in every run.
type dice uint64

func (d *dice) below(n int) int {
	*d ^= *d << 13
	*d ^= *d >> 7
	*d ^= *d << 17
	return int(uint64(*d) % uint64(n))
}

func (d *dice) one(of ...string) string { return of[d.below(len(of))] }

// mixed are the same declarations in some order.
func (d *dice) mixed(p plain) plain {
	p = slices.Clone(p)
	for i := range p {
		j := d.below(i + 1)
		p[i], p[j] = p[j], p[i]
	}
	return p
}

func turned(p plain) plain {
	p = slices.Clone(p)
	slices.Reverse(p)
	return p
}

// The plain ways are themselves held against what the chapter says.
func TestPlain(t *testing.T) {
	p := decls(t, example)
	if p.fault() != (api.Fault{}) || !slices.Equal(p.names(api.DeclPlace), []string{"ny", "us", "world"}) || !slices.Equal(p.order(), []string{"vat", "city"}) {
		t.Error("the plain names")
	}
	ny, _ := p.money("ny")
	world, _ := p.money("world")
	_, is := p.money("oz")
	if ny.Name != "USD" || world.Name != "EUR" || is {
		t.Error("the plain money")
	}
	for _, c := range []struct {
		class   string
		day     api.Date
		percent int64
	}{{"food.bread", 738915, 5}, {"food.bread", 738916, 0}, {"book", 5, 20}, {"food.fish", 738916, 5}} {
		if b, ok := p.rate("vat", c.class, c.day); !ok || b[0].Percent.Units != c.percent {
			t.Error("the plain rates", c)
		}
	}
	poor := someFacts()[1]
	if yes, _ := p.exempt("vat", "food.bread", 0, poor); !yes {
		t.Error("the plain exemptions")
	}
	if yes, _ := p.exempt("vat", "book", 0, poor); yes {
		t.Error("the plain exemptions")
	}
	if l, ok := p.least("city", 0); l.Units != 1000 || !ok {
		t.Error("the plain leasts")
	}
	if c := p.canon(); c[0].Name != "EUR" || c[2].Name != "ny" || c[5].Name != "city" || len(c[8].Brackets) != 1 || c[9].Class != "food" || c[10].Class != "food.bread" || c[12].Kind != api.DeclLeast {
		t.Error("the plain canon", told(c))
	}
	for i, f := range someFacts() {
		if (traits.Fit(f) == api.OK) != (i < 4) {
			t.Error("the plain facts")
		}
	}
}
