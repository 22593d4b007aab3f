package rules_test

import (
	"slices"
	"strings"
	"testing"

	"tollbook/api"
	"tollbook/rules"
	"tollbook/syntax"
)

// someBooks may be.
func someBooks(t *testing.T) []plain {
	t.Helper()
	list := []plain{nil, decls(t, "currency EUR 2;"), decls(t, start), decls(t, example), decls(t, document)}
	roll := dice(19)
	for range 12 {
		list = append(list, roll.book(t))
	}
	return list
}

// book is one that may be: what would not go with what is ahead of it is left out.
func (d *dice) book(t *testing.T) plain {
	t.Helper()
	p := decls(t, start)
	for range 10 + d.below(25) {
		if more := append(slices.Clone(p), decls(t, d.line())...); more.fault() == (api.Fault{}) {
			p = more
		}
	}
	return p
}

// place, tax and the others are short names; some are of nothing.
func (d *dice) place() string { return d.one("w", "w", "a", "b", "c", "vat") }
func (d *dice) tax() string   { return d.one("vat", "vat", "x", "y", "z", "w") }
func (d *dice) coin() string  { return d.one("EUR", "EUR", "USD", "JPY") }

func (d *dice) class() string {
	return d.one("", "", " for food", " for food.bread", " for food.bread.rye", " for book", " for foods")
}

func (d *dice) span() string {
	from := d.below(12)
	return d.one("", during(0, 1+d.below(12)), during(from, behind), during(from, from+1+d.below(6)))
}

func (d *dice) names() string {
	list := []string{d.tax()}
	for d.below(2) == 0 {
		list = append(list, d.tax())
	}
	return strings.Join(list, ", ")
}

func (d *dice) line() string {
	switch d.below(8) {
	case 0:
		return "currency " + d.coin() + d.one(" 0;", " 2;", " 4;")
	case 1, 2:
		return "place " + d.place() + d.one("", " in "+d.place(), " in "+d.place()) + d.one("", " money "+d.coin()) + ";"
	case 3, 4:
		return "tax " + d.tax() + " in " + d.place() + " round " + d.one("line", "invoice") + d.one(" up", " even") + d.one("", " on "+d.names()) + d.one("", " instead "+d.names()) + ";"
	case 5:
		return "rate " + d.tax() + d.class() + d.span() + " " + d.one("0", "5", "7.5", "20") + "%" + d.one("", ", 30% above 100") + ";"
	case 6:
		return "exempt " + d.tax() + d.class() + d.span() + d.one("", " when buyer poor", " when buyer school and amount < 100", " when not line book") + ";"
	default:
		return "least " + d.tax() + d.span() + d.one(" 0;", " 5;", " 12.5;")
	}
}

// P19.1 to P19.7: declarations without an order, refused or not.
func TestMixed(t *testing.T) {
	t.Parallel()
	roll := dice(1900)
	for range 3000 {
		p := decls(t, start)
		for range roll.below(9) {
			p = append(p, decls(t, roll.line())...)
		}
		p = roll.mixed(p)
		want := p.fault()
		if m, fault := rules.Of(p); fault != want || (m == nil) != (want != api.Fault{}) {
			t.Fatalf("%s: %v, not %v", told(p), fault, want)
		}
	}
	for range 15 {
		wantOf(t, roll.mixed(roll.book(t)))
	}
}

// P19.8: the declarations in another order, and turned round, have the same canon,
// and the same answers.
func TestOtherOrders(t *testing.T) {
	t.Parallel()
	roll := dice(8)
	for _, p := range someBooks(t) {
		canon := model(t, p).Canon()
		for i := range 4 {
			other := roll.mixed(p)
			if i == 0 {
				other = turned(p)
			}
			m := model(t, other)
			if !syntax.Same(m.Canon(), canon) {
				t.Fatalf("%s: %s", told(other), told(m.Canon()))
			}
			if i < 2 {
				wantModel(t, m, p)
			}
		}
	}
}

// P19.8: what is refused is so in every order.
func TestRefusedInEveryOrder(t *testing.T) {
	roll := dice(80)
	for _, c := range faultTexts() {
		p, _ := added(t, start+"tax b in w round line up; rate b 5%; exempt b;", c.src)
		for _, other := range []plain{turned(p), roll.mixed(p), roll.mixed(p), roll.mixed(p)} {
			if m, fault := rules.Of(other); m != nil || fault.Err != c.err || fault != other.fault() {
				t.Errorf("%s: %v", told(other), fault)
			}
		}
	}
}

// P19.8: the model of a canon has that canon, and the same answers.
func TestCanonOfCanon(t *testing.T) {
	t.Parallel()
	for _, p := range someBooks(t) {
		canon := model(t, p).Canon()
		again := model(t, canon)
		if !syntax.Same(again.Canon(), canon) {
			t.Fatalf("%s: %s", told(canon), told(again.Canon()))
		}
		wantModel(t, again, p)
	}
}

// P19.8: a canon may be printed and read.
func TestCanonIsRead(t *testing.T) {
	for _, p := range someBooks(t) {
		canon := model(t, p).Canon()
		text, _ := syntax.Print(canon)
		if read, spot := syntax.Parse(text); spot != (api.Spot{}) || !syntax.Same(read, canon) {
			t.Errorf("%s: %v", text, spot)
		}
	}
}

// P19.8: places, taxes, rates of other names play no part in what is told of one,
// be they ever so near to it.
func TestOtherNames(t *testing.T) {
	t.Parallel()
	const more = `currency ZZZ 4; place zz money ZZZ; place aa in HERE money ZZZ; place ab in zz; tax aa in zz round line floor; tax zz in HERE round invoice even on vat, aa; tax vat_ in aa round line up instead vat, zz;
rate aa 77%; rate zz for food 78%; rate vat_ for food.bread 79%; exempt aa; exempt zz for food; exempt vat_ when buyer poor; least aa 70; least zz to 0001-01-05 71; least vat_ 72;`
	for _, p := range someBooks(t)[2:] {
		here := p.names(api.DeclPlace)[0]
		m := model(t, append(decls(t, strings.ReplaceAll(more, "HERE", here)), p...))
		a := p.asks()
		wantTimes(t, m, p, a)
		wantExempt(t, m, p, a)
		for _, name := range a.names {
			want, is := p.money(name)
			if c, ok := m.Money(name); c != want || ok != is {
				t.Errorf("%s: %v, %v", name, c, ok)
			}
			wantTax, is := p.find(api.DeclTax, name)
			if d, ok := m.Tax(name); !syntax.Same([]api.Decl{d}, []api.Decl{wantTax}) || ok != is {
				t.Errorf("%s: %v", name, d)
			}
		}
		own := slices.DeleteFunc(m.Order(), func(tax string) bool { return !p.has(api.DeclTax, tax) })
		if len(own) != len(p.names(api.DeclTax)) || len(m.Order()) != len(own)+3 {
			t.Errorf("%v", m.Order())
		}
	}
}
