package syntax_test

import (
	"math"
	"slices"
	"strings"
	"testing"

	"tollbook/api"
	"tollbook/syntax"
)

// P14.3: the chapter's examples.
func TestPrintExamples(t *testing.T) {
	for _, src := range []string{
		"",
		"rate vat for food.bread from 2024-01-01 to 2025-01-01 7.5%, 10% above 100;\n",
		"exempt vat when not (buyer a or line b or amount < 1.5);\n",
		book,
	} {
		decls, _ := syntax.Parse(src)
		wantPrint(t, src, decls...)
	}
}

// P14.3: each kind, with and without what may be left out.
func TestPrintEveryPart(t *testing.T) {
	span := api.Span{From: 1, To: api.MaxDate}
	for want, d := range map[string]api.Decl{
		"currency EUR 0;":                                             {Kind: api.DeclCurrency, Name: "EUR"},
		"currency ABC 4;":                                             {Kind: api.DeclCurrency, Name: "ABC", Digits: 4},
		"place a;":                                                    {Kind: api.DeclPlace, Name: "a"},
		"place a in b;":                                               {Kind: api.DeclPlace, Name: "a", In: "b"},
		"place a money EUR;":                                          {Kind: api.DeclPlace, Name: "a", Money: "EUR"},
		"place a in b money EUR;":                                     {Kind: api.DeclPlace, Name: "a", In: "b", Money: "EUR"},
		"tax a in b round line floor;":                                {Kind: api.DeclTax, Name: "a", In: "b", Policy: api.ByLine, Mode: api.ModeFloor},
		"tax a in b round invoice ceil on c;":                         {Kind: api.DeclTax, Name: "a", In: "b", Policy: api.ByInvoice, Mode: api.ModeCeil, On: []string{"c"}},
		"tax a in b round line up instead d, c, c;":                   {Kind: api.DeclTax, Name: "a", In: "b", Policy: api.ByLine, Mode: api.ModeUp, Instead: []string{"d", "c", "c"}},
		"tax a in b round line down on d, c instead e, f;":            {Kind: api.DeclTax, Name: "a", In: "b", Policy: api.ByLine, Mode: api.ModeDown, On: []string{"d", "c"}, Instead: []string{"e", "f"}},
		"tax a in b round invoice even;":                              {Kind: api.DeclTax, Name: "a", In: "b", Policy: api.ByInvoice, Mode: api.ModeEven, On: []string{}, Instead: []string{}},
		"rate a 0%;":                                                  {Kind: api.DeclRate, Name: "a", Span: always(), Brackets: percent(0, 0)},
		"rate a 100%;":                                                {Kind: api.DeclRate, Name: "a", Span: always(), Brackets: percent(100, 0)},
		"rate a for b 0.000000001%;":                                  {Kind: api.DeclRate, Name: "a", Class: "b", Span: always(), Brackets: percent(1, 9)},
		"rate a from 0001-01-02 to 9999-12-31 5%;":                    {Kind: api.DeclRate, Name: "a", Span: span, Brackets: percent(5, 0)},
		"rate a to 0001-01-02 5%, 0% above 0.5, 12.5% above 1;":       {Kind: api.DeclRate, Name: "a", Span: api.Span{To: 1}, Brackets: []api.Bracket{{Percent: number(5, 0)}, {Above: number(5, 1)}, {Above: number(1, 0), Percent: number(125, 1)}}},
		"rate a from 9999-12-31 5%;":                                  {Kind: api.DeclRate, Name: "a", Span: api.Span{From: api.MaxDate, To: last}, Brackets: percent(5, 0)},
		"exempt a;":                                                   {Kind: api.DeclExempt, Name: "a", Span: always()},
		"exempt a for b.c from 0001-01-02 to 9999-12-31;":             {Kind: api.DeclExempt, Name: "a", Class: "b.c", Span: span},
		"exempt a to 9999-12-31 when line x;":                         {Kind: api.DeclExempt, Name: "a", Span: api.Span{To: api.MaxDate}, When: line("x")},
		"least a 0;":                                                  {Kind: api.DeclLeast, Name: "a", Span: always()},
		"least a from 0001-01-02 to 9999-12-31 9223372036.854775807;": {Kind: api.DeclLeast, Name: "a", Span: span, Least: number(math.MaxInt64, 9)},
		"least a to 2024-02-29 9223372036854775807;":                  {Kind: api.DeclLeast, Name: "a", Span: api.Span{To: 738944}, Least: number(math.MaxInt64, 0)},
	} {
		wantPrint(t, want+"\n", d)
		wantPrint(t, "place x;\n"+want+"\n"+want+"\n", api.Decl{Kind: api.DeclPlace, Name: "x"}, d, d)
	}
}

// P14.3: where ( ) stand in a condition, and where not.
func TestPrintConditions(t *testing.T) {
	a, b, c, d := buyer("a"), buyer("b"), line("c"), line("d")
	for want, when := range map[string][]api.Node{
		"buyer a":                                                     a,
		"line c":                                                      c,
		"amount < 0":                                                  amount(api.OpBelow, number(0, 0)),
		"amount <= 1.5":                                               amount(api.OpMost, number(15, 1)),
		"quantity > 10":                                               quantity(api.OpAbove, number(10, 0)),
		"quantity >= 0.05":                                            quantity(api.OpLeast, number(5, 2)),
		"not buyer a":                                                 not(a),
		"not not not buyer a":                                         nots(3, a),
		"buyer a or buyer b or line c":                                or(a, b, c),
		"buyer a and buyer b and line c":                              and(a, b, c),
		"buyer a and buyer b or line c":                               or(and(a, b), c),
		"buyer a or buyer b and line c":                               or(a, and(b, c)),
		"(buyer a or buyer b) and line c":                             and(or(a, b), c),
		"buyer a and (buyer b or line c)":                             and(a, or(b, c)),
		"not (buyer a or buyer b)":                                    not(or(a, b)),
		"not (buyer a and buyer b)":                                   not(and(a, b)),
		"not not (buyer a and buyer b)":                               nots(2, and(a, b)),
		"not buyer a and not buyer b":                                 and(not(a), not(b)),
		"not buyer a or not not buyer b":                              or(not(a), nots(2, b)),
		"not (not buyer a or not buyer b)":                            not(or(not(a), not(b))),
		"not ((buyer a or buyer b) and line c)":                       not(and(or(a, b), c)),
		"not (line c and (buyer a or buyer b))":                       not(and(c, or(a, b))),
		"not (buyer a and buyer b or line c)":                         not(or(and(a, b), c)),
		"(buyer a or buyer b) and (line c or line d)":                 and(or(a, b), or(c, d)),
		"buyer a and buyer b or line c and line d":                    or(and(a, b), and(c, d)),
		"buyer a and (buyer b or line c and (line d or not buyer a))": and(a, or(b, and(c, or(d, not(a))))),
		"buyer a and not (buyer b or line c) and line d":              and(a, not(or(b, c)), d),
		"buyer a or not (buyer b and line c) or line d":               or(a, not(and(b, c)), d),
	} {
		wantPrint(t, "exempt a when "+want+";\n", exempt(when))
	}
}

// P14.3: great conditions and declarations without an order.
func TestPrintMixed(t *testing.T) {
	t.Parallel()
	x := mixed(143)
	for range 600 {
		list := x.decls(6)
		want, _ := slowPrint(list)
		wantPrint(t, want, list...)
	}
}

// P14.3: what is printed has MaxSource bytes at most, and nothing is told of
// what has more; what may not be goes ahead of that.
func TestPrintLongest(t *testing.T) {
	name := strings.Repeat("n", 24)
	list := slices.Repeat([]api.Decl{{Kind: api.DeclPlace, Name: name}}, 2048)
	full := strings.Repeat("place "+name+";\n", 2048)
	if len(full) != api.MaxSource {
		t.Fatalf("it has %d bytes", len(full))
	}
	wantPrint(t, full, list...)
	for at := range list {
		if at%100 == 0 || at == len(list)-1 {
			long := slices.Clone(list)
			long[at].In = "a"
			wantTooLong(t, long)
		}
	}
	// A currency is 16 bytes shorter than such a place; " in " and 12 letters are
	// just as many, and with one letter more it is a byte too long.
	for _, at := range []int{0, 1000, 2047} {
		one := slices.Clone(list)
		one[at] = api.Decl{Kind: api.DeclCurrency, Name: "EUR"}
		other := (at + 1) % len(list)
		one[other].In = strings.Repeat("i", 12)
		want, _ := slowPrint(one)
		if len(want) != api.MaxSource {
			t.Errorf("it has %d bytes", len(want))
		}
		wantPrint(t, want, one...)
		one[other].In += "i"
		wantTooLong(t, one)
	}
	wrong := slices.Repeat([]api.Decl{{Kind: api.DeclPlace, Name: name, In: name}}, 2048)
	wantTooLong(t, wrong)
	wrong[2047].Name = "A"
	wantFault(t, api.ErrName, 2047, wrong...)
	wantFault(t, api.ErrLong, -1, append(list, list...)...)
	great := exempt(or(slices.Repeat([][]api.Node{buyer(name)}, 63)...))
	wantTooLong(t, slices.Repeat([]api.Decl{great}, 2048))
}

func wantTooLong(t *testing.T, list []api.Decl) {
	t.Helper()
	if s, fault := syntax.Print(list); s != "" || fault != (api.Fault{Err: api.ErrLong, At: -1}) {
		t.Errorf("Print of too much is %d bytes, %v", len(s), fault)
	}
	if fault := syntax.Check(list); fault != (api.Fault{}) {
		t.Errorf("Check is %v", fault)
	}
}
