package rules_test

import (
	"slices"
	"strconv"
	"strings"
	"testing"

	"tollbook/api"
	"tollbook/rules"
	"tollbook/syntax"
)

// name is a word for each number, rising with these.
func name(i int) string {
	text := strconv.Itoa(i)
	return "n" + strings.Repeat("0", 4-len(text)) + text
}

// wantNoFault asks that a long book is one, and that one declaration more is too
// many.
func wantNoFault(t *testing.T, p plain) *rules.Model {
	t.Helper()
	if len(p) != api.MaxDecls {
		t.Fatalf("%d declarations", len(p))
	}
	m := model(t, p)
	if canon := m.Canon(); len(canon) != len(p) {
		t.Errorf("a canon of %d", len(canon))
	}
	long := append(slices.Clone(p), p[0])
	if m, fault := rules.Of(long); m != nil || fault != (api.Fault{Err: api.ErrLong, At: -1}) {
		t.Errorf("one more: %v", fault)
	}
	return m
}

// places are so many, each in the next one (or in the one ahead, where step is below
// 0), the last one in none.
func places(from, to, step int, money string) plain {
	var list plain
	for i := from; i < to; i++ {
		d := api.Decl{Kind: api.DeclPlace, Name: name(i), In: name(i + step)}
		if i+step < from || i+step >= to {
			d.In, d.Money = "", money
		}
		list = append(list, d)
	}
	return list
}

func coin(name string) api.Decl {
	return api.Decl{Kind: api.DeclCurrency, Name: name, Digits: 2}
}

// P19.1, P19.3: a book of places alone, each in the next one: money comes down all the
// way, the root being the first or the last.
func TestDeepPlaces(t *testing.T) {
	const n = api.MaxDecls - 1
	for _, step := range []int{1, -1} {
		p := append(places(0, n, step, "EUR"), coin("EUR"))
		m := wantNoFault(t, p)
		tree := m.Tree()
		root, end := n-1, 0
		if step < 0 {
			root, end = 0, n-1
		}
		if deep, err := tree.Deep(end); deep != n-1 || err != api.OK {
			t.Errorf("%d deep, %d", deep, err)
		}
		for i := range n {
			if c, ok := m.Money(name(i)); c != (api.Currency{Name: "EUR", Digits: 2}) || !ok {
				t.Fatalf("%d: %v", i, c)
			}
			if at, ok := m.Place(name(i)); at != i || !ok {
				t.Fatalf("%d: %d", i, at)
			}
		}
		roll := dice(3)
		mixed := roll.mixed(p)
		if other := model(t, mixed); !slices.Equal(other.Places(), m.Places()) || !syntax.Same(other.Canon(), m.Canon()) {
			t.Error("in another order")
		}
		p[root].Money = ""
		if _, fault := rules.Of(p); fault != (api.Fault{Err: api.ErrMoney, At: 0}) {
			t.Error(fault)
		}
		p[root].In = name(end)
		if _, fault := rules.Of(p); fault != (api.Fault{Err: api.ErrRing, At: 0}) {
			t.Error(fault)
		}
		p[root].In = name((root + 2*end) / 3)
		if _, fault := rules.Of(p); fault.Err != api.ErrRing || fault.At != min(root, (root+2*end)/3) {
			t.Error(fault)
		}
	}
}

// P19.1, P19.4: a book of taxes alone, each of which stands on the next ones, as many
// as may be.
func TestManyTaxes(t *testing.T) {
	const n = api.MaxDecls - 2
	for _, many := range []int{1, 16} {
		p := append(places(n, n+1, 1, "EUR"), coin("EUR"))
		for i := range n {
			d := api.Decl{Kind: api.DeclTax, Name: name(i), In: name(n), Policy: api.ByLine, Mode: api.ModeUp}
			for k := i + 1; k < n && k <= i+many; k++ {
				d.On = append(d.On, name(k))
				d.Instead = append(d.Instead, name((k+n/2)%n))
			}
			p = append(p, d)
		}
		m := wantNoFault(t, p)
		order := m.Order()
		slices.Reverse(order)
		if !slices.Equal(order, m.Taxes()) || len(order) != n {
			t.Error("the order")
		}
		last := &p[len(p)-1]
		last.On = []string{name(0)}
		if _, fault := rules.Of(p); fault != (api.Fault{Err: api.ErrRing, At: 2}) {
			t.Error(fault)
		}
		last.On = []string{name(n - 2)}
		if _, fault := rules.Of(p); fault != (api.Fault{Err: api.ErrRing, At: n}) {
			t.Error(fault)
		}
	}
}

// P19.1, P19.5, P19.7: as many rates, and leasts, as may be, each for a day; days
// without an order; one of them for two days.
func TestManyDays(t *testing.T) {
	const n = api.MaxDecls - 3
	for _, kind := range []api.DeclKind{api.DeclRate, api.DeclLeast} {
		p := decls(t, start)
		for i := range n {
			d := api.Decl{Kind: kind, Name: "vat", Span: api.Span{From: api.Date(i * 13 % n), To: api.Date(i*13%n + 1)}}
			if kind == api.DeclRate {
				d.Class, d.Brackets = "food", []api.Bracket{{Percent: api.Dec{Units: int64(i * 13 % n % 97)}}}
			} else {
				d.Least.Units = int64(i * 13 % n % 97)
			}
			p = append(p, d)
		}
		m := wantNoFault(t, p)
		for d := range api.Date(n + 2) {
			var got int64
			list, ok := m.Rate("vat", "food.bread", d)
			least, is := m.Least("vat", d)
			if got = least.Units; ok {
				got = list[0].Percent.Units
			}
			if want := int64(d % 97); d < n && (got != want || ok == is) || d >= n && (ok || is) {
				t.Fatalf("%d: %d", d, got)
			}
		}
		for _, at := range []int{3, 1000, len(p) - 1} {
			list := slices.Clone(p)
			list[at].Span.To++
			want := 0
			for i, d := range list {
				if i != at && meet(d.Span, list[at].Span) {
					want = max(i, at)
				}
			}
			if _, fault := rules.Of(list); want > 0 && fault != (api.Fault{Err: api.ErrOverlap, At: want}) {
				t.Errorf("%d: %v, not at %d", at, fault, want)
			}
		}
	}
}

// P19.1, P19.6: as many exemptions as may be, the same one, and each for a class of
// its own.
func TestManyExemptions(t *testing.T) {
	const n = api.MaxDecls - 3
	p := decls(t, start)
	for range n {
		p = append(p, decls(t, "exempt vat for food when buyer poor;")...)
	}
	m := wantNoFault(t, p)
	wantFree(t, m, "vat", "food.bread", 5, someFacts()[1], true)
	wantFree(t, m, "vat", "food.bread", 5, api.Facts{}, false)
	wantFree(t, m, "vat", "book", 5, someFacts()[1], false)
	for i := range n {
		p[3+i].Class, p[3+i].When = name(i), nil
	}
	m = wantNoFault(t, p)
	for i := range n {
		wantFree(t, m, "vat", name(i)+".x", 5, api.Facts{}, true)
	}
	wantFree(t, m, "vat", name(n), 5, api.Facts{}, false)
}

// P19.1: faults in the last one of as many declarations as may be.
func TestLastFault(t *testing.T) {
	const n = api.MaxDecls - 2
	for _, c := range []wrong{
		{"place n0000 money EUR;", api.ErrTwice, 0},
		{"currency EUR 0;", api.ErrTwice, 0},
		{"place x in oz;", api.ErrName, 0},
		{"place x money USD;", api.ErrName, 0},
		{"tax x in n0000 round line up on x;", api.ErrName, 0},
		{"rate n0000 5%;", api.ErrName, 0},
		{"place x in x;", api.ErrRing, 0},
		{"place x;", api.ErrMoney, 0},
	} {
		p := append(plain{coin("EUR")}, places(0, n, 1, "EUR")...)
		p = append(p, decls(t, c.src)...)
		if m, fault := rules.Of(p); m != nil || fault != (api.Fault{Err: c.err, At: len(p) - 1}) {
			t.Errorf("%s: %v", c.src, fault)
		}
	}
}
