package rules_test

import (
	"slices"
	"strings"
	"testing"

	"tollbook/api"
	"tollbook/juris"
	"tollbook/rules"
	"tollbook/syntax"
)

// wantCanon asks that a book's canon is printed so.
func wantCanon(t *testing.T, src, want string) {
	t.Helper()
	p := decls(t, src)
	m := model(t, p)
	if text, fault := syntax.Print(m.Canon()); text != want || fault != (api.Fault{}) {
		t.Errorf("%s: %s, %v", src, text, fault)
	}
	wantModel(t, m, p)
}

// P19.2: by kinds, whatever their words are; of one kind by the texts, as these are
// held against one another byte by byte.
func TestCanon(t *testing.T) {
	wantCanon(t, "least a 7; exempt a; rate a 5%; tax a in a round line up; place a money AAA; currency AAA 0;", `currency AAA 0;
place a money AAA;
tax a in a round line up;
rate a 5%;
exempt a;
least a 7;
`)
	wantCanon(t, `currency EUR 2; place w money EUR; place w_ in w; place w1 in w; place wa in w money EUR; place v in w;
tax b in w round line up; tax a in w round line up; tax a1 in w round invoice floor on a, b;
rate a to 0001-01-03 5%; rate a from 0001-01-03 to 0002-01-01 10%; rate a from 0002-01-01 2%, 3% above 9;
rate a for f.g 10%; rate a for f 5%; rate a for f_ 1%; rate a for e 100%; rate b 1%;
exempt b; exempt a when buyer x; exempt a; exempt a for z; exempt a when not buyer x;
least b 10; least a to 0001-01-02 9; least a from 0001-01-03 10;`, `currency EUR 2;
place v in w;
place w money EUR;
place w1 in w;
place w_ in w;
place wa in w money EUR;
tax a in w round line up;
tax a1 in w round invoice floor on a, b;
tax b in w round line up;
rate a for e 100%;
rate a for f 5%;
rate a for f.g 10%;
rate a for f_ 1%;
rate a from 0001-01-03 to 0002-01-01 10%;
rate a from 0002-01-01 2%, 3% above 9;
rate a to 0001-01-03 5%;
rate b 1%;
exempt a for z;
exempt a when buyer x;
exempt a when not buyer x;
exempt a;
exempt b;
least a from 0001-01-03 10;
least a to 0001-01-02 9;
least b 10;
`)
}

// P19.2: an exemption that is declared twice stands there twice, wherever it does.
func TestCanonTwice(t *testing.T) {
	const base = "currency EUR 2;\nplace w money EUR;\ntax vat in w round line up;\n"
	wantCanon(t, start+"exempt vat; exempt vat;", base+"exempt vat;\nexempt vat;\n")
	wantCanon(t, "exempt vat when buyer b; exempt vat for a; exempt vat when buyer b;"+start+"exempt vat for a; exempt vat when buyer b;", base+"exempt vat for a;\nexempt vat for a;\n"+strings.Repeat("exempt vat when buyer b;\n", 3))
}

// P19.2: all fields of all kinds are told.
func TestCanonWhole(t *testing.T) {
	p := decls(t, `currency EUR 4; place v in w money EUR; place w money EUR;
tax a in v round invoice even; tax b in w round line floor on a; tax c in w round line ceil on a, b instead a, d; tax d in w round invoice down instead a;
rate a for x.y from 2020-02-29 to 2021-01-01 0.5%, 7.25% above 12.5, 100% above 99999;
exempt a for x from 2020-01-01 to 2030-01-01 when not (buyer a and line b or amount >= 10.5) and quantity < 3; least c from 2020-01-01 to 2022-01-01 12.345;`)
	wantModel(t, model(t, p), p)
	if got := model(t, turned(p)).Canon(); !syntax.Same(got, p) {
		t.Error(told(got))
	}
}

// P19.3: names, numbers and the tree of the chapter's example.
func TestPlaces(t *testing.T) {
	m := model(t, decls(t, example))
	if !slices.Equal(m.Places(), []string{"ny", "us", "world"}) {
		t.Error(m.Places())
	}
	for i, name := range []string{"ny", "us", "world", "oz", "", "Us", "us ", "vat", "EUR", "a.b", strings.Repeat("x", 1<<20)} {
		want := i
		if i > 2 {
			want = 0
		}
		if at, ok := m.Place(name); at != want || ok != (i < 3) {
			t.Errorf("%.20s: %d, %v", name, at, ok)
		}
	}
	if path := slices.Collect(m.Tree().Path(0)); !slices.Equal(path, []int{0, 1, 2}) {
		t.Error(path)
	}
	if deep, err := m.Tree().Deep(0); deep != 2 || err != api.OK {
		t.Error(deep, err)
	}
}

// P19.3: a place's money is its own, or that of the nearest one over it that has
// one, however far above.
func TestMoney(t *testing.T) {
	p := decls(t, `currency EUR 2; currency JPY 0; currency BHD 3;
place a money EUR; place b in a; place c in b; place d in c money JPY; place e in d; place f in e; place g in f money BHD; place h in g; place i in c; place j in b money EUR; place k money JPY; place l in k;`)
	m := model(t, p)
	euros, yen, dinars := api.Currency{Name: "EUR", Digits: 2}, api.Currency{Name: "JPY"}, api.Currency{Name: "BHD", Digits: 3}
	for place, want := range map[string]api.Currency{"a": euros, "b": euros, "c": euros, "d": yen, "e": yen, "f": yen, "g": dinars, "h": dinars, "i": euros, "j": euros, "k": yen, "l": yen} {
		if c, ok := m.Money(place); c != want || !ok {
			t.Errorf("%s: %v, %v", place, c, ok)
		}
	}
	for _, name := range []string{"", "m", "EUR", "A", "a.b"} {
		if c, ok := m.Money(name); c != (api.Currency{}) || ok {
			t.Errorf("%s: %v, %v", name, c, ok)
		}
	}
	for _, want := range []api.Currency{euros, yen, dinars} {
		if c, ok := m.Currency(want.Name); c != want || !ok {
			t.Errorf("%v, %v", c, ok)
		}
	}
	for _, name := range []string{"", "USD", "a", "EU", "EURO", "eur"} {
		if c, ok := m.Currency(name); c != (api.Currency{}) || ok {
			t.Errorf("%s: %v, %v", name, c, ok)
		}
	}
	for range 3 {
		wantModel(t, m, p)
	}
}

// P19.3, P19.4: a name that is a place's and a tax's, and a code like both.
func TestOneNameForAll(t *testing.T) {
	p := decls(t, `currency EUR 2; currency VAT 1; place vat money VAT; place eur in vat; place b in eur money EUR;
tax vat in b round line up on eur; tax eur in vat round invoice even; tax c in eur round line down instead vat;
rate vat 1%; rate eur 2%; least eur 3; exempt vat;`)
	m := model(t, p)
	wantModel(t, m, p)
	if c, _ := m.Money("vat"); c.Name != "VAT" {
		t.Error(c)
	}
	if d, ok := m.Tax("eur"); d.Kind != api.DeclTax || d.In != "vat" || !ok {
		t.Error(d)
	}
	if !slices.Equal(m.Order(), []string{"c", "eur", "vat"}) || !slices.Equal(m.Places(), []string{"b", "eur", "vat"}) {
		t.Error(m.Order(), m.Places())
	}
	wantOf(t, turned(p))
}

// P19.4: each tax as it is declared; no place and no currency is one.
func TestTaxes(t *testing.T) {
	p := decls(t, document)
	m := model(t, p)
	if !slices.Equal(m.Taxes(), []string{"city", "duty", "vat"}) || !slices.Equal(m.Order(), []string{"duty", "vat", "city"}) {
		t.Error(m.Taxes(), m.Order())
	}
	city, ok := m.Tax("city")
	want := api.Decl{Kind: api.DeclTax, Name: "city", In: "berlin", Policy: api.ByLine, Mode: api.ModeEven, On: []string{"vat"}}
	if !ok || !syntax.Same([]api.Decl{city}, []api.Decl{want}) {
		t.Error(city)
	}
	for _, name := range []string{"", "berlin", "EUR", "City", "city ", "oz"} {
		if d, ok := m.Tax(name); !syntax.Same([]api.Decl{d}, make([]api.Decl, 1)) || ok {
			t.Errorf("%s: %v, %v", name, d, ok)
		}
	}
}

// taxes are so many, each of which stands on those that on tells.
func taxes(names []string, on func(i int) []string) string {
	text := ""
	for i, name := range names {
		text += "tax " + name + " in w round line up"
		if list := on(i); len(list) > 0 {
			text += " on " + strings.Join(list, ", ")
		}
		text += ";"
	}
	return text
}

// P19.4: the order is that of order.Sort: of those that may come next the least. All
// ways in which four taxes may stand on one another.
func TestOrder(t *testing.T) {
	names := []string{"a", "b", "c", "d"}
	const pairs = 12
	rings := 0
	for mask := range 1 << pairs {
		on := func(i int) []string {
			var list []string
			for k := range 3 {
				if mask>>(3*i+k)&1 == 1 {
					list = append(list, names[(i+k+1)%4])
				}
			}
			return list
		}
		p := decls(t, "currency EUR 0; place w money EUR;"+taxes(names, on))
		m, fault := rules.Of(p)
		if want := p.fault(); fault != want {
			t.Fatalf("%s: %v, not %v", told(p), fault, want)
		}
		if m == nil {
			rings++
			continue
		}
		if !slices.Equal(m.Order(), p.order()) {
			t.Fatalf("%s: %v", told(p), m.Order())
		}
	}
	// There are 543 ways without a ring to lay arcs between four nodes.
	if rings != 1<<pairs-543 {
		t.Errorf("%d with rings", rings)
	}
}

// P19.3: all ways in which four places may be in one another: the tree's parents, or
// the first one on a ring.
func TestTrees(t *testing.T) {
	names := []string{"b", "a", "d", "c"}
	for shape := range 5 * 5 * 5 * 5 {
		src, rest := "currency EUR 0;", shape
		for _, name := range names {
			src += "place " + name
			if rest%5 < 4 {
				src += " in " + names[rest%5]
			}
			src += " money EUR;"
			rest /= 5
		}
		p := decls(t, src)
		m, fault := rules.Of(p)
		if want := p.fault(); fault != want {
			t.Fatalf("%s: %v, not %v", src, fault, want)
		}
		if m != nil {
			wantTree(t, m.Tree(), p)
		}
	}
}

// P19.3, R4: a tree is there for every model, one of no place too.
func TestTreesAreThere(t *testing.T) {
	for _, src := range []string{"", "currency EUR 2;", start, example} {
		m := model(t, decls(t, src))
		if m.Tree() == nil || m.Tree().Len() != len(m.Places()) {
			t.Error(src)
		}
		if _, err := m.Tree().Parent(-1); err != api.ErrPlace {
			t.Error(src, err)
		}
	}
	var none *juris.Tree
	if _, err := none.Parent(-1); err != api.ErrNil {
		t.Error(err)
	}
}
