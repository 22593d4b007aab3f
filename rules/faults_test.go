package rules_test

import (
	"slices"
	"strconv"
	"strings"
	"testing"

	"tollbook/api"
	"tollbook/rules"
)

// added is what a book says with more behind it, and the place of the first one
// that was added.
func added(t *testing.T, src, more string) (plain, int) {
	t.Helper()
	return decls(t, src+more), len(decls(t, src))
}

// wrong is a text with one fault, of a book in which stand those of start: the place
// is counted from its own first declaration.
type wrong struct {
	src string
	err api.Errno
	at  int
}

func wantWrongs(t *testing.T, list []wrong) {
	t.Helper()
	for _, c := range list {
		p, n := added(t, start, c.src)
		wantFault(t, p, c.err, n+c.at)
	}
}

// wantRight asks that these are books, with start, and that all that is told of
// them is so.
func wantRight(t *testing.T, list ...string) {
	t.Helper()
	for _, src := range list {
		p, _ := added(t, start, src)
		if fault := p.fault(); fault != (api.Fault{}) {
			t.Errorf("%s: %v", src, fault)
		}
		wantOf(t, p)
	}
}

// P19.1: the chapter's examples, and those of the document.
func TestExamples(t *testing.T) {
	for _, c := range []wrong{
		{"currency EUR 3;", api.ErrTwice, 0},
		{"tax vat in oz round line up;", api.ErrTwice, 0},
		{"place x in x;", api.ErrRing, 0},
		{"place x;", api.ErrMoney, 0},
		{"place x in oz;", api.ErrName, 0},
		{"tax x in us round line up on x;", api.ErrName, 0},
		{"tax x in us round line up on vat, vat;", api.ErrTwice, 0},
		{"rate vat for food from 2030-01-01 1%;", api.ErrOverlap, 0},
		{"least city from 2024-01-01 5;", api.ErrOverlap, 0},
	} {
		p, n := added(t, example, c.src)
		wantFault(t, p, c.err, n+c.at)
	}
	p, _ := added(t, example, "rate vat for food.fish 1%;")
	wantOf(t, p)
	wantOf(t, decls(t, example))
	wantOf(t, decls(t, document))
	wantFault(t, decls(t, strings.Replace(document, "berlin in de", "berlin in rome", 1)), api.ErrName, 3)
	wantFault(t, decls(t, strings.Replace(document, "de in eu", "eu in de", 1)), api.ErrTwice, 5)
	wantFault(t, decls(t, strings.Replace(document, "place eu money EUR", "place eu in de", 1)), api.ErrRing, 4)
	wantFault(t, decls(t, "place x;"), api.ErrMoney, 0)
}

// P19.1: a book of nothing is a model without anything.
func TestNothing(t *testing.T) {
	for _, list := range [][]api.Decl{nil, {}, decls(t, example)[:0]} {
		m := model(t, list)
		if len(m.Canon())+len(m.Places())+len(m.Taxes())+len(m.Order()) > 0 || m.Tree() == nil || m.Tree().Len() != 0 {
			t.Error("something")
		}
		if _, err := m.Exempt("vat", "food", 0, api.Facts{}); err != api.ErrName {
			t.Error(err)
		}
		if path := m.Tree().Path(0); path == nil {
			t.Error("no tree")
		}
		wantModel(t, m, nil)
	}
}

// P19.1, 1: what syntax.Check says goes ahead of all else, with its own place.
func TestCheck(t *testing.T) {
	for _, c := range []struct {
		d   api.Decl
		err api.Errno
	}{
		{api.Decl{}, api.ErrSyntax},
		{api.Decl{Kind: 7, Name: "x"}, api.ErrSyntax},
		{api.Decl{Kind: -1, Name: "x"}, api.ErrSyntax},
		{api.Decl{Kind: api.DeclPlace, Name: "x", Digits: 1}, api.ErrSyntax},
		{api.Decl{Kind: api.DeclPlace, Name: "Oz"}, api.ErrName},
		{api.Decl{Kind: api.DeclTax, Name: "x", On: []string{"rate"}, In: "w"}, api.ErrName},
		{api.Decl{Kind: api.DeclTax, Name: "x", In: "w", Policy: 1, Mode: 1, On: slices.Repeat([]string{"vat"}, 17)}, api.ErrLong},
		{api.Decl{Kind: api.DeclCurrency, Name: "EUR", Digits: 5}, api.ErrArg},
		{api.Decl{Kind: api.DeclRate, Name: "oz", Class: "x."}, api.ErrClass},
		{api.Decl{Kind: api.DeclExempt, Name: "oz", Span: api.Span{From: 3, To: 3}}, api.ErrSpan},
		{api.Decl{Kind: api.DeclRate, Name: "oz", Span: api.Span{To: behind}}, api.ErrSchedule},
		{api.Decl{Kind: api.DeclLeast, Name: "oz", Span: api.Span{To: behind}, Least: api.Dec{Units: -1}}, api.ErrDecimal},
		{api.Decl{Kind: api.DeclExempt, Name: "oz", Span: api.Span{To: behind}, When: make([]api.Node, 1)}, api.ErrTree},
	} {
		for _, src := range []string{"", start, example, "currency EUR 2; currency EUR 2; place x in x; rate oz 1%;"} {
			p, n := added(t, src, "")
			wantFault(t, append(p, c.d), c.err, n)
			wantFault(t, append(plain{c.d}, p...), c.err, 0)
			wantFault(t, append(plain{c.d}, append(p, api.Decl{})...), c.err, 0)
		}
	}
	wantFault(t, make(plain, api.MaxDecls), api.ErrSyntax, 0)
	wantFault(t, make(plain, api.MaxDecls+1), api.ErrLong, -1)
}

// P19.1, 2: a name may stand for a place and a tax, not twice for one of them; the
// second one has the fault, whatever else both say.
func TestTwice(t *testing.T) {
	wantWrongs(t, []wrong{
		{"currency EUR 2;", api.ErrTwice, 0},
		{"currency EUR 0;", api.ErrTwice, 0},
		{"place w money EUR;", api.ErrTwice, 0},
		{"place w;", api.ErrTwice, 0},
		{"place w in w;", api.ErrTwice, 0},
		{"tax vat in w round line up;", api.ErrTwice, 0},
		{"tax vat in oz round invoice down on vat, vat;", api.ErrTwice, 0},
		{"currency USD 2; place v in w; tax b in w round line up; place v money USD; currency USD 2; tax b in v round line up;", api.ErrTwice, 3},
		{"tax w in w round line up; place vat in w; tax w in vat round line up;", api.ErrTwice, 2},
		{"place a in w; place a in w; place a in w;", api.ErrTwice, 1},
		{"rate oz 1%; place x in x; currency EUR 2;", api.ErrTwice, 2},
	})
	wantRight(t, "place vat in w; tax w in vat round line up on vat; rate w 1%; least w 5; exempt w;",
		"currency VAT 0; currency WWW 1; place www in w money WWW;",
		"rate vat for a 1%; rate vat for b 1%; exempt vat; exempt vat; least vat to 0001-01-05 3; least vat from 0001-01-05 3;")
}

// coins are so many currencies.
func coins(n int) string {
	text := ""
	for i := range n {
		text += "currency A" + string(rune('A'+i/26)) + string(rune('A'+i%26)) + " " + strconv.Itoa(i%5) + ";"
	}
	return text
}

// P19.1, 3: sixteen currencies may be, not seventeen; one that stands there twice
// goes ahead.
func TestCurrencies(t *testing.T) {
	for _, n := range []int{0, 1, 15, 16} {
		wantOf(t, decls(t, coins(n)))
	}
	for _, n := range []int{17, 18, 40} {
		wantFault(t, decls(t, coins(n)), api.ErrLong, -1)
		wantFault(t, decls(t, "place x; place y in y; rate oz 1%; "+coins(n)), api.ErrLong, -1)
		wantFault(t, decls(t, coins(n)+"currency AAA 2;"), api.ErrTwice, n)
	}
	wantFault(t, decls(t, coins(16)+start), api.ErrLong, -1)
	wantRight(t, coins(15))
	wantFault(t, decls(t, coins(16)+"currency AAP 2;"), api.ErrTwice, 16)
}

// P19.1, 4: In, Money, On, Instead and the names of rates, exemptions and leasts
// that name none, or a tax that names itself.
func TestNamesOfNone(t *testing.T) {
	wantWrongs(t, []wrong{
		{"place x in oz;", api.ErrName, 0},
		{"place x in oz money EUR;", api.ErrName, 0},
		{"place x in vat;", api.ErrName, 0},
		{"place x money USD;", api.ErrName, 0},
		{"place x in w money USD;", api.ErrName, 0},
		{"tax b in oz round line up;", api.ErrName, 0},
		{"tax b in vat round line up;", api.ErrName, 0},
		{"tax b in w round line up on c;", api.ErrName, 0},
		{"tax b in w round line up on w;", api.ErrName, 0},
		{"tax b in w round line up on vat, c;", api.ErrName, 0},
		{"tax b in w round line up on b;", api.ErrName, 0},
		{"tax b in w round line up on vat, b;", api.ErrName, 0},
		{"tax b in w round line up instead c;", api.ErrName, 0},
		{"tax b in w round line up instead w, vat;", api.ErrName, 0},
		{"tax b in w round line up instead b;", api.ErrName, 0},
		{"tax b in w round line up on vat instead vat, b;", api.ErrName, 0},
		{"rate oz 1%;", api.ErrName, 0},
		{"rate w 1%;", api.ErrName, 0},
		{"exempt oz;", api.ErrName, 0},
		{"exempt w when buyer vat;", api.ErrName, 0},
		{"least oz 1;", api.ErrName, 0},
		{"least w 1;", api.ErrName, 0},
		{"rate vat 1%; place x in w; place y in z; place x_ in oz; rate oz 1%;", api.ErrName, 2},
		{"exempt vat; least vat 5; tax b in w round line up on c; tax c in w round line up on d; place x in y;", api.ErrName, 3},
		{"tax b in w round line up on c, c; place x in x; rate oz 1%;", api.ErrName, 0},
	})
	wantRight(t, "place x in y; place y in z; place z in w; tax b in x round line up on c instead d; tax c in y round line up on d; tax d in z round line up;",
		"tax b in w round line up on vat instead vat;",
		"tax b in w round line up instead c; tax c in w round line up instead b;")
	wantOf(t, decls(t, "least b 3; exempt b; rate b 4%; tax b in x round line up on c; tax c in x round line up; place x in y; place y money USD; currency USD 2;"))
}

// P19.1, 5: names twice in On, or twice in Instead; one in both is none.
func TestNamesTwice(t *testing.T) {
	const more = "tax a in w round line up; tax b in w round line up; tax c in w round line up;"
	for _, c := range []wrong{
		{"tax d in w round line up on a, a;", api.ErrTwice, 0},
		{"tax d in w round line up instead a, a;", api.ErrTwice, 0},
		{"tax d in w round line up on a, b, a;", api.ErrTwice, 0},
		{"tax d in w round line up on vat, a, b, c, c;", api.ErrTwice, 0},
		{"tax d in w round line up on a, b instead b, c, vat, c;", api.ErrTwice, 0},
		{"tax d in w round line up on a instead a; tax e in w round line up instead d, d; tax f in w round line up on d, d;", api.ErrTwice, 1},
		{"rate vat 1%; rate vat 1%; place x; place y in y; tax d in w round line up on a, a; tax e in w round line up on e_; tax e_ in w round line up on e;", api.ErrTwice, 4},
	} {
		p, n := added(t, start+more, c.src)
		wantFault(t, p, c.err, n+c.at)
	}
	wantRight(t, more+"tax d in w round line up on a, b, c instead c, b, a;", more+"tax d in w round line up on c, a; tax e in w round line up on c, a;")
}

// P19.1, 6: places that lie over themselves: one, two, several; those that only lie
// below such are not at fault, wherever they stand.
func TestPlaceRings(t *testing.T) {
	wantWrongs(t, []wrong{
		{"place x in x;", api.ErrRing, 0},
		{"place x in x money EUR;", api.ErrRing, 0},
		{"place x in y; place y in x;", api.ErrRing, 0},
		{"place y in x; place x in y money EUR;", api.ErrRing, 0},
		{"place a in x; place b in a; place z in y; place y in x; place x in z; place c in y;", api.ErrRing, 2},
		{"place a in b; place b in b; place c in d; place d in c;", api.ErrRing, 1},
		{"place a in b; place z in z; place c in d; place b in w; place d in c;", api.ErrRing, 1},
		{"place a; tax b in w round line up on c; tax c in w round line up on b; place z in a; place x in x;", api.ErrRing, 4},
		{"place p in q; place q in r; place r in s; place s in t; place t in q;", api.ErrRing, 1},
	})
	wantFault(t, decls(t, "place w in w;"), api.ErrRing, 0)
	wantFault(t, decls(t, "place b in a; place a in b;"), api.ErrRing, 0)
	wantRight(t, "place a in b; place b in c; place c in w; place d in b; place e in c;")
}

// P19.1, 7: taxes that stand on themselves, by way of others; those that only stand
// on such are not at fault. Instead plays no part.
func TestTaxRings(t *testing.T) {
	const tail = " in w round line up on "
	wantWrongs(t, []wrong{
		{"tax a" + tail + "b; tax b" + tail + "a;", api.ErrRing, 0},
		{"tax b" + tail + "a; tax a" + tail + "b;", api.ErrRing, 0},
		{"tax z" + tail + "a; tax a" + tail + "b; tax b" + tail + "c; tax c" + tail + "a;", api.ErrRing, 1},
		{"tax z" + tail + "vat, c; tax a" + tail + "b; tax b" + tail + "vat; tax c" + tail + "d, a; tax d" + tail + "b, z;", api.ErrRing, 0},
		{"tax a" + tail + "d; tax b" + tail + "c; tax c" + tail + "b; tax d" + tail + "e; tax e" + tail + "d;", api.ErrRing, 1},
		{"tax a" + tail + "d; tax e" + tail + "d; tax b" + tail + "c; tax c" + tail + "b; tax d" + tail + "e;", api.ErrRing, 1},
		{"place x; rate vat 1%; rate vat 1%; tax a" + tail + "b instead vat; tax b" + tail + "a;", api.ErrRing, 3},
	})
	wantRight(t, "tax a"+tail+"b instead c; tax b"+tail+"c; tax c in w round line up instead a, b;",
		"tax a"+tail+"b, c, vat; tax b"+tail+"c, vat; tax c"+tail+"vat;")
	p := decls(t, strings.Replace(start, "line up", "line up on z", 1)+"tax a"+tail+"vat; tax z"+tail+"vat;")
	wantFault(t, p, api.ErrRing, 2)
}

// P19.1, 8: a place whose money comes from far above, and one that has none.
func TestMoneyFaults(t *testing.T) {
	wantWrongs(t, []wrong{
		{"place x;", api.ErrMoney, 0},
		{"place x in y; place y;", api.ErrMoney, 0},
		{"place z in w; place y; place x in y;", api.ErrMoney, 1},
		{"place a in b money EUR; place b in c; place c;", api.ErrMoney, 1},
		{"rate vat 1%; rate vat 1%; least vat 1; least vat 1; place x in y; place y;", api.ErrMoney, 4},
		{"place a in b; place b in c; place c in d; place d in e; place e in f money EUR; place f;", api.ErrMoney, 5},
	})
	wantRight(t, "place a in b; place b in c; place c in d; place d in w;", "place a in b; place b in c; place c money EUR;", "currency USD 0; place a in b money USD; place b in c money EUR; place c in d; place d in w money USD;")
	wantFault(t, decls(t, "place w;"), api.ErrMoney, 0)
}

// during is how a text tells a span.
func during(from, to int) string {
	text := ""
	if from > 0 {
		text += " from " + day(from)
	}
	if to < behind {
		text += " to " + day(to)
	}
	return text
}

// P19.1, 9 and 10: rates and leasts of one name whose spans touch, share one day,
// share all or none, told in both orders; with classes that are alike and not.
func TestOverlaps(t *testing.T) {
	t.Parallel()
	spans := [][2]int{{0, behind}, {0, 1}, {0, 3}, {1, 2}, {2, 3}, {2, 5}, {3, 4}, {3, behind}, {4, 5}, {5, 9}, {behind - 1, behind}}
	for _, a := range spans {
		for _, b := range spans {
			share := max(a[0], b[0]) < min(a[1], b[1])
			one, two := during(a[0], a[1]), during(b[0], b[1])
			for _, pair := range [][2]string{
				{"rate vat" + one + " 1%;", "rate vat" + two + " 2%;"},
				{"rate vat for a.b" + one + " 1%;", "rate vat for a.b" + two + " 1%;"},
				{"least vat" + one + " 1;", "least vat" + two + " 2;"},
			} {
				if share {
					wantWrongs(t, []wrong{{pair[0] + pair[1], api.ErrOverlap, 1}})
				} else {
					p, _ := added(t, start, pair[0]+pair[1])
					wantTimes(t, model(t, p), p, p.asks())
				}
			}
			if a == b {
				wantRight(t, "rate vat"+one+" 1%; rate vat for a"+two+" 2%; rate vat for a.b"+two+" 2%; rate vat for b"+two+" 3%; rate vat for ab"+two+" 3%;",
					"tax b in w round line up; rate vat"+one+" 1%; rate b"+one+" 2%; least vat"+one+" 3; least b"+one+" 4;",
					"rate vat"+one+" 1%; least vat"+two+" 2; exempt vat"+one+"; exempt vat"+two+"; exempt vat for a"+two+";")
			}
		}
	}
}

// P19.1, 9 and 10: of several the first one that shares a day with any ahead of it
// has the fault, be its name and class those of the first ones or not.
func TestFirstOverlap(t *testing.T) {
	rate := func(name string, from, to int) string { return "rate " + name + during(from, to) + " 1%;" }
	least := func(name string, from, to int) string { return "least " + name + during(from, to) + " 1;" }
	const b = "tax b in w round line up;"
	wantWrongs(t, []wrong{
		{rate("vat", 0, 5) + rate("vat", 5, 9) + rate("vat", 20, behind) + rate("vat", 8, 21), api.ErrOverlap, 3},
		{rate("vat", 20, 30) + rate("vat", 0, 5) + rate("vat", 10, 15) + rate("vat", 14, 16) + rate("vat", 0, 1), api.ErrOverlap, 3},
		{b + rate("vat", 0, 5) + rate("b", 0, 5) + rate("b", 4, 6) + rate("vat", 4, 6), api.ErrOverlap, 3},
		{b + rate("vat", 0, 5) + rate("b", 0, 5) + rate("vat", 4, 6) + rate("b", 4, 6), api.ErrOverlap, 3},
		{b + rate("vat", 0, 5) + rate("vat for a", 0, 5) + rate("vat for b", 0, 5) + rate("vat for b", 0, 5) + rate("vat for a", 0, 5), api.ErrOverlap, 4},
		{b + least("vat", 0, 5) + least("b", 0, 5) + least("b", 4, 6) + least("vat", 4, 6), api.ErrOverlap, 3},
		{least("vat", 0, 5) + least("vat", 5, 9) + least("vat", 3, 6) + rate("vat", 0, 9) + rate("vat", 9, 10) + rate("vat", 9, 12), api.ErrOverlap, 5},
		{rate("vat", 0, 9) + rate("vat", 9, 10) + least("vat", 0, 5) + least("vat", 4, 9), api.ErrOverlap, 3},
	})
}

// faultTexts are texts that each have one fault of P19.1, from the second kind on, in
// that order; none speaks of what is in another one. The place is that of the one at
// fault.
func faultTexts() []wrong {
	return []wrong{
		{"place twin in w; place twin in w;", api.ErrTwice, 1},
		{coins(16), api.ErrLong, -1},
		{"place lost in oz;", api.ErrName, 0},
		{"tax dd in w round line up on vat, vat;", api.ErrTwice, 0},
		{"place ra in rb; place rb in ra;", api.ErrRing, 0},
		{"tax ta in w round line up on tb; tax tb in w round line up on ta;", api.ErrRing, 0},
		{"place poor;", api.ErrMoney, 0},
		{"rate vat 1%; rate vat 2%;", api.ErrOverlap, 1},
		{"least vat 1; least vat 2;", api.ErrOverlap, 1},
	}
}

// P19.1: where several faults hold at once, the first kind is told, wherever its
// declaration stands: each two, in both orders, and all from each on.
func TestSeveralFaults(t *testing.T) {
	list := faultTexts()
	check := func(order []int) {
		src, best := start, slices.Min(order)
		at := 0
		for _, i := range order {
			if i == best && list[i].at >= 0 {
				at = len(decls(t, src)) + list[i].at
			} else if i == best {
				at = -1
			}
			src += list[i].src
		}
		wantFault(t, decls(t, src), list[best].err, at)
		syntaxFault := append(decls(t, src), api.Decl{Kind: 9})
		wantFault(t, syntaxFault, api.ErrSyntax, len(syntaxFault)-1)
	}
	for a := range list {
		for b := range list {
			if a != b {
				check([]int{a, b})
			}
		}
		var rest []int
		for i := a; i < len(list); i++ {
			rest = append(rest, i)
		}
		check(rest)
		slices.Reverse(rest)
		check(rest)
	}
}

// R2: beside a fault there is no model, and one that was made ahead is as it was.
func TestRefusedChangesNothing(t *testing.T) {
	m := model(t, decls(t, example))
	for _, c := range faultTexts() {
		p, _ := added(t, start, c.src)
		if refused, fault := rules.Of(p); refused != nil || fault.Err != c.err {
			t.Errorf("%v: %v", c, fault)
		}
	}
	wantModel(t, m, decls(t, example))
}

// someLines are short declarations that speak of one another in many ways.
func someLines() []string {
	return []string{
		"currency USD 2;", "currency EUR 1;",
		"place a in b;", "place b in a;", "place a in w;", "place b;", "place b money USD;", "place a in a;", "place w in a;", "place vat in w;",
		"tax x in w round line up on vat;", "tax y in a round line up on x;", "tax x in w round line up on y;", "tax x in vat round line up instead y, y;", "tax vat in b round line up on x;", "tax y in w round line up on x, vat;",
		"rate vat 1%;", "rate vat for a 2%;", "rate vat to 0001-01-04 3%;", "rate vat from 0001-01-04 4%;", "rate x 1%;", "rate y for a.b from 0001-01-03 to 0001-01-05 1%;",
		"exempt vat for a when buyer poor;", "exempt x to 0001-01-04;",
		"least vat 1;", "least vat to 0001-01-03 2;", "least y from 0001-01-03 1;",
	}
}

// P19.1 to P19.7: every three declarations out of many, in every order, ahead of what
// a small book needs and behind it.
func TestEveryThree(t *testing.T) {
	t.Parallel()
	var pool plain
	for _, line := range someLines() {
		pool = append(pool, decls(t, line)...)
	}
	base := decls(t, start)
	books := 0
	for _, a := range pool {
		for _, b := range pool {
			for _, c := range pool {
				p := append(slices.Clone(base), a, b, c)
				if (books+len(a.Name))%2 == 0 {
					p = append(plain{a, b, c}, base...)
				}
				books++
				want := p.fault()
				m, fault := rules.Of(p)
				if fault != want || (m == nil) != (want != api.Fault{}) {
					t.Fatalf("%s: fault %v, not %v", told(p), fault, want)
				}
				if m != nil && books%40 == 0 {
					wantModel(t, m, p)
				}
			}
		}
	}
}
