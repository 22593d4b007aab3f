package syntax_test

import (
	"math"
	"slices"
	"strings"
	"testing"

	"tollbook/api"
	"tollbook/syntax"
)

func always() api.Span { return api.Span{To: last} }

func buyer(name string) []api.Node { return []api.Node{{Kind: api.NodeBuyer, Name: name}} }
func line(name string) []api.Node  { return []api.Node{{Kind: api.NodeLine, Name: name}} }

func amount(op api.Op, d api.Dec) []api.Node {
	return []api.Node{{Kind: api.NodeAmount, Op: op, Value: d}}
}

func quantity(op api.Op, d api.Dec) []api.Node {
	return []api.Node{{Kind: api.NodeQuantity, Op: op, Value: d}}
}

func joint(kind api.NodeKind, kids ...[]api.Node) []api.Node {
	return append([]api.Node{{Kind: kind, Kids: len(kids)}}, slices.Concat(kids...)...)
}

func or(kids ...[]api.Node) []api.Node  { return joint(api.NodeOr, kids...) }
func and(kids ...[]api.Node) []api.Node { return joint(api.NodeAnd, kids...) }
func not(kid []api.Node) []api.Node     { return joint(api.NodeNot, kid) }

func nots(n int, kid []api.Node) []api.Node {
	for range n {
		kid = not(kid)
	}
	return kid
}

func exempt(when []api.Node) api.Decl {
	return api.Decl{Kind: api.DeclExempt, Name: "a", Span: always(), When: when}
}

func least(d api.Dec) api.Decl {
	return api.Decl{Kind: api.DeclLeast, Name: "a", Span: always(), Least: d}
}

// P14.1: the chapter's examples.
func TestReadExamples(t *testing.T) {
	wantRead(t, "currency EUR 2; place de money EUR; tax vat in de round line even; rate vat 19%;",
		api.Decl{Kind: api.DeclCurrency, Name: "EUR", Digits: 2},
		api.Decl{Kind: api.DeclPlace, Name: "de", Money: "EUR"},
		api.Decl{Kind: api.DeclTax, Name: "vat", In: "de", Policy: api.ByLine, Mode: api.ModeEven},
		api.Decl{Kind: api.DeclRate, Name: "vat", Span: always(), Brackets: []api.Bracket{{Percent: number(19, 0)}}})
	wantRead(t, "rate vat for food.bread from 2024-01-01 to 2025-01-01 7.5%, 10% above 100;",
		api.Decl{Kind: api.DeclRate, Name: "vat", Class: "food.bread", Span: api.Span{From: 738885, To: 739251}, Brackets: []api.Bracket{{Percent: number(75, 1)}, {Above: number(100, 0), Percent: number(10, 0)}}})
	wantRead(t, "exempt a when not (buyer a or (line b or amount<1.50));",
		exempt(not(or(buyer("a"), line("b"), amount(api.OpBelow, number(15, 1))))))
	wantRead(t, "least a 10000000000;", least(number(10000000000, 0)))
	if decls, spot := syntax.Parse(book); spot != (api.Spot{}) || len(decls) != 16 {
		t.Errorf("the book is %v, %v", decls, spot)
	}
	wantPlain(t, book)
}

// P14.1: texts that say nothing.
func TestReadNothing(t *testing.T) {
	for _, src := range []string{"", " ", "\n", "\t\r\n ", "#", "# x", "# x\n", "#\n#\n\n #", "# place a;", "# \xff!\n\n", strings.Repeat(" ", api.MaxSource), strings.Repeat("#", api.MaxSource), strings.Repeat("\n", api.MaxSource)} {
		wantRead(t, src)
	}
}

// P14.1: each kind of declaration, with and without each part that may be left
// out.
func TestReadEveryPart(t *testing.T) {
	for digit := range 5 {
		wantRead(t, "currency XYZ "+itoa(digit)+";", api.Decl{Kind: api.DeclCurrency, Name: "XYZ", Digits: digit})
	}
	for n := range 4 {
		d, src := api.Decl{Kind: api.DeclPlace, Name: "a"}, "place a"
		if n&1 > 0 {
			d.In, src = "b", src+" in b"
		}
		if n&2 > 0 {
			d.Money, src = "EUR", src+" money EUR"
		}
		wantRead(t, src+";", d)
	}
	for n := range 4 * 2 * 5 {
		policy, mode := 1+n/4%2, 1+n/8
		d := api.Decl{Kind: api.DeclTax, Name: "a", In: "b", Policy: api.Policy(policy), Mode: api.Mode(mode)}
		src := "tax a in b round " + []string{"", "line", "invoice"}[policy] + " " + modeNames()[mode]
		if n&1 > 0 {
			d.On, src = []string{"c", "d", "c"}, src+" on c, d, c"
		}
		if n&2 > 0 {
			d.Instead, src = []string{"e"}, src+" instead e"
		}
		wantRead(t, src+";", d)
	}
}

// P14.1: the parts that rates, exempts and leasts have in common, each there or
// not; dates at both ends.
func TestReadTimes(t *testing.T) {
	spans := map[string]api.Span{
		"":                                     always(),
		" from 0001-01-01":                     always(),
		" from 0001-01-02":                     {From: 1, To: last},
		" from 9999-12-31":                     {From: api.MaxDate, To: last},
		" to 0001-01-02":                       {To: 1},
		" to 9999-12-31":                       {To: api.MaxDate},
		" from 0001-01-01 to 9999-12-31":       {To: api.MaxDate},
		" from 9999-12-30 to 9999-12-31":       {From: api.MaxDate - 1, To: api.MaxDate},
		" from 2024-02-29 to 2024-03-01":       {From: 738944, To: 738945},
		"\nfrom#to\n2000-02-29\nto 2000-03-01": {From: 730178, To: 730179},
	}
	for src, span := range spans {
		for class, part := range map[string]string{"": "", "food": " for food", "a.b.c.d.e.f.g.h": " for a.b.c.d.e.f.g.h"} {
			wantRead(t, "rate a"+part+src+" 5%;", api.Decl{Kind: api.DeclRate, Name: "a", Class: class, Span: span, Brackets: []api.Bracket{{Percent: number(5, 0)}}})
			wantRead(t, "exempt a"+part+src+";", api.Decl{Kind: api.DeclExempt, Name: "a", Class: class, Span: span})
			wantRead(t, "exempt a"+part+src+" when line b;", api.Decl{Kind: api.DeclExempt, Name: "a", Class: class, Span: span, When: line("b")})
		}
		wantRead(t, "least a"+src+" 5;", api.Decl{Kind: api.DeclLeast, Name: "a", Span: span, Least: number(5, 0)})
	}
}

// P14.1: brackets, up to MaxBrackets, the first with and without its bound.
func TestReadBrackets(t *testing.T) {
	src, d := "rate a 0%", api.Decl{Kind: api.DeclRate, Name: "a", Span: always(), Brackets: []api.Bracket{{}}}
	for n := 1; n <= api.MaxBrackets; n++ {
		wantRead(t, src+";", d)
		wantRead(t, strings.Replace(src, "0%", "0.0% above 00.00", 1)+";", d)
		src += ", " + itoa(100-n) + ".50% above " + itoa(n) + "0.10"
		d.Brackets = append(d.Brackets, api.Bracket{Above: number(int64(n)*100+1, 1), Percent: number(int64(100-n)*10+5, 1)})
	}
	wantSpot(t, src+";", api.ErrSchedule, 1, 1)
}

// P14.1: numbers with noughts ahead and at their end, and the greatest ones.
func TestReadNumbers(t *testing.T) {
	for src, d := range map[string]api.Dec{
		"0": {}, "00": {}, "0.0": {}, "0.0000000000000": {}, "007": number(7, 0), "10": number(10, 0), "1.50": number(15, 1), "1.5": number(15, 1), "001.500000000000": number(15, 1), "0.000000001": number(1, 9), "0.0000000010": number(1, 9), "100.000000000": number(100, 0),
		"9223372036854775807":                           number(math.MaxInt64, 0),
		"9223372036.854775807":                          number(math.MaxInt64, 9),
		"0009223372036.85477580700":                     number(math.MaxInt64, 9),
		strings.Repeat("0", 5000) + "7":                 number(7, 0),
		"7." + strings.Repeat("0", 5000):                number(7, 0),
		"922337203685477580.7" + strings.Repeat("0", 9): number(math.MaxInt64, 1),
	} {
		wantRead(t, "least a "+src+";", least(d))
		wantRead(t, "exempt a when amount >= "+src+" and quantity<"+src+";", exempt(and(amount(api.OpLeast, d), quantity(api.OpBelow, d))))
	}
	for _, src := range []string{"9223372036854775808", "99999999999999999999", "9223372036.8547758071", "922337203685477580.8", "0.0000000001", "1.0000000001", "0.00000000010", strings.Repeat("9", 5000), "0." + strings.Repeat("0", 5000) + "1"} {
		wantSpot(t, "least a "+src+";", api.ErrOver, 1, 9)
		wantSpot(t, "rate a\n "+src+"%;", api.ErrOver, 2, 2)
		wantSpot(t, "rate a 1%, 2% above "+src+" !", api.ErrOver, 1, 21)
		wantSpot(t, "exempt a when (amount <= "+src+" ;", api.ErrOver, 1, 26)
		wantSpot(t, "exempt a when quantity>"+src, api.ErrOver, 1, 24)
		wantSpot(t, "currency EUR "+src+";", api.ErrSyntax, 1, 14)
	}
}

// P14.1: days that are not there, ahead of all that comes behind them.
func TestReadDays(t *testing.T) {
	for _, day := range []string{"2023-02-29", "1900-02-29", "0000-01-01", "2024-00-01", "2024-13-01", "2024-01-00", "2024-01-32", "2024-04-31", "9999-99-99"} {
		for _, rest := range []string{";", " to 2024-01-01;", " !", "", " x", " to 2023-02-29;"} {
			wantSpot(t, "exempt a from "+day+rest, api.ErrDate, 1, 15)
			wantSpot(t, "place a;\n\trate a from 2024-01-01 to "+day+rest, api.ErrDate, 2, 28)
			wantSpot(t, "least a to "+day+rest, api.ErrDate, 1, 12)
		}
	}
}

// P14.1: names of as many letters as there may be, and of more; classes of as
// many parts.
func TestReadNames(t *testing.T) {
	most := strings.Repeat("n", api.MaxName)
	wantRead(t, "place "+most+" in "+most+";", api.Decl{Kind: api.DeclPlace, Name: most, In: most})
	wantRead(t, "tax "+most+" in "+most+" round line up on "+most+", "+most+" instead "+most+";", api.Decl{Kind: api.DeclTax, Name: most, In: most, Policy: api.ByLine, Mode: api.ModeUp, On: []string{most, most}, Instead: []string{most}})
	wantRead(t, "exempt a when buyer "+most+" and line "+most+";", exempt(and(buyer(most), line(most))))
	class := strings.TrimSuffix(strings.Repeat(most+".", api.MaxParts), ".")
	wantRead(t, "exempt a for "+class+";", api.Decl{Kind: api.DeclExempt, Name: "a", Class: class, Span: always()})
	for _, more := range []string{most + "n", strings.Repeat("tax", 9), strings.Repeat("n", 60000)} {
		wantSpot(t, " place "+more+";", api.ErrName, 1, 2)
		wantSpot(t, "place a in "+more+";", api.ErrName, 1, 1)
		wantSpot(t, "place a;\ntax a in b round line up on c, "+more+";", api.ErrName, 2, 1)
		wantSpot(t, "tax a in b round line up instead "+more+";", api.ErrName, 1, 1)
		wantSpot(t, "exempt a for "+more+";", api.ErrClass, 1, 1)
		wantSpot(t, "exempt a when buyer "+more+";", api.ErrTree, 1, 1)
		wantSpot(t, "least "+more+" 1;", api.ErrName, 1, 1)
	}
	wantSpot(t, "exempt a for "+class+".b;", api.ErrClass, 1, 1)
	wantSpot(t, "rate a for food.tax 1%;", api.ErrClass, 1, 1)
	wantSpot(t, "rate a for tax.food 1%;", api.ErrClass, 1, 1)
	wantSpot(t, "rate a for tax 1%;", api.ErrSyntax, 1, 12)
	for _, s := range keptWords() {
		wantSpot(t, "place "+s+";", api.ErrSyntax, 1, 7)
		wantSpot(t, "exempt a for "+s+";", api.ErrSyntax, 1, 14)
		wantSpot(t, "exempt a when buyer "+s+";", api.ErrSyntax, 1, 21)
		wantRead(t, "place "+s+"_ in "+s+"1;", api.Decl{Kind: api.DeclPlace, Name: s + "_", In: s + "1"})
	}
}

// P14.1: MaxNames names behind "on" and "instead"; one more.
func TestReadLists(t *testing.T) {
	for n := 1; n <= 20; n++ {
		list := slices.Repeat([]string{"x"}, n)
		text := strings.Join(list, ", ")
		d := api.Decl{Kind: api.DeclTax, Name: "a", In: "b", Policy: api.ByLine, Mode: api.ModeUp}
		for _, part := range []string{"on", "instead"} {
			one := d
			if part == "on" {
				one.On = list
			} else {
				one.Instead = list
			}
			if src := " tax a in b round line up " + part + " " + text + ";"; n <= api.MaxNames {
				wantRead(t, src, one)
			} else {
				wantSpot(t, src, api.ErrLong, 1, 2)
			}
		}
		d.On, d.Instead = list, list
		if src := "tax a in b round line up on " + text + " instead " + text + ";"; n <= api.MaxNames {
			wantRead(t, src, d)
		} else {
			wantSpot(t, src, api.ErrLong, 1, 1)
		}
	}
}

// P14.1: how conditions bind, and ( ) in them.
func TestReadConditions(t *testing.T) {
	a, b, c, d := buyer("a"), buyer("b"), buyer("c"), buyer("d")
	for src, want := range map[string][]api.Node{
		"buyer a":                        a,
		"line a":                         line("a"),
		"amount < 0":                     amount(api.OpBelow, number(0, 0)),
		"amount <= 1":                    amount(api.OpMost, number(1, 0)),
		"quantity > 2.50":                quantity(api.OpAbove, number(25, 1)),
		"quantity>=3":                    quantity(api.OpLeast, number(3, 0)),
		"((buyer a))":                    a,
		"not buyer a":                    not(a),
		"not(buyer a)":                   not(a),
		"not not not buyer a":            nots(3, a),
		"(not (not (buyer a)))":          nots(2, a),
		"buyer a or buyer b":             or(a, b),
		"buyer a and buyer b":            and(a, b),
		"buyer a or buyer b and buyer c": or(a, and(b, c)),
		"buyer a and buyer b or buyer c": or(and(a, b), c),
		"buyer a and buyer b or buyer c and buyer d":         or(and(a, b), and(c, d)),
		"(buyer a or buyer b) and buyer c":                   and(or(a, b), c),
		"buyer a and (buyer b or buyer c)":                   and(a, or(b, c)),
		"not buyer a and buyer b":                            and(not(a), b),
		"not buyer a or buyer b":                             or(not(a), b),
		"not (buyer a and buyer b)":                          not(and(a, b)),
		"not (buyer a or buyer b) and buyer c":               and(not(or(a, b)), c),
		"buyer a or (buyer b or buyer c)":                    or(a, b, c),
		"(buyer a or buyer b) or buyer c":                    or(a, b, c),
		"(buyer a or buyer b) or (buyer c or buyer d)":       or(a, b, c, d),
		"((buyer a or ((buyer b) or (buyer c or buyer d))))": or(a, b, c, d),
		"buyer a and (buyer b and buyer c)":                  and(a, b, c),
		"(buyer a and buyer b) and buyer c and buyer d":      and(a, b, c, d),
		"buyer a and (buyer b and (buyer c and buyer d))":    and(a, b, c, d),
		"buyer a or (buyer b and buyer c)":                   or(a, and(b, c)),
		"buyer a or (buyer b and buyer c and (buyer d))":     or(a, and(b, c, d)),
		"(buyer a and buyer b or buyer c) or buyer d":        or(and(a, b), c, d),
		"((buyer a or buyer b) and buyer c) and buyer d":     and(or(a, b), c, d),
		"buyer a or not (buyer b or buyer c)":                or(a, not(or(b, c))),
		"not not (buyer a or buyer b) or buyer c":            or(nots(2, or(a, b)), c),
		"not (not (buyer a and buyer b) and buyer c)":        not(and(not(and(a, b)), c)),
	} {
		wantRead(t, "exempt a when "+src+";", exempt(want))
		wantRead(t, "exempt a when ("+src+");", exempt(want))
		wantRead(t, "exempt a when not ("+src+");", exempt(not(want)))
	}
}

// P14.1: MaxDeep "not" and "(" that are open, in each mixture; one more.
func TestReadOpen(t *testing.T) {
	x := mixed(14)
	mixtures := []string{strings.Repeat("n", 16), strings.Repeat("(", 16), strings.Repeat("n(", 8), strings.Repeat("(n", 8)}
	for range 200 {
		s := ""
		for range 16 {
			s += x.one([]string{"n", "("})
		}
		mixtures = append(mixtures, s)
	}
	for _, mixture := range mixtures {
		src, tail := "exempt a when ", "buyer b"+strings.Repeat(" )", strings.Count(mixture, "("))
		n := strings.Count(mixture, "n")
		src += strings.ReplaceAll(strings.ReplaceAll(mixture, "(", "( "), "n", "not ")
		if want := nots(n, buyer("b")); n < api.MaxDeep {
			wantRead(t, src+tail+";", exempt(want))
		} else {
			wantSpot(t, src+tail+";", api.ErrTree, 1, 1)
		}
		for _, more := range []string{"not", "("} {
			wantSpot(t, src+more+tail+";", api.ErrSyntax, 1, len(src)+1)
			wantSpot(t, src+more+"!", api.ErrSyntax, 1, len(src)+1)
			wantSpot(t, src+more, api.ErrSyntax, 1, len(src)+1)
		}
		wantSpot(t, src+"! not", api.ErrToken, 1, len(src)+1)
		wantSpot(t, src, api.ErrSyntax, 1, len(src)+1)
	}
	// What is closed is not open any more.
	deep := strings.Repeat("(", 15)
	ends := strings.Repeat(")", 15)
	wantRead(t, "exempt a when "+deep+"not buyer a and not buyer b or not buyer c"+ends+";", exempt(or(and(not(buyer("a")), not(buyer("b"))), not(buyer("c")))))
	wantRead(t, "exempt a when "+deep+"(buyer a) and (buyer b)"+ends+" or "+deep+"(buyer c)"+ends+";", exempt(or(and(buyer("a"), buyer("b")), buyer("c"))))
	wantSpot(t, "exempt a when "+deep+"(buyer a) and not (buyer b", api.ErrSyntax, 1, 14+15+19)
	wantRead(t, strings.Repeat("exempt a when "+deep+"not buyer a"+ends+";", 3), exempt(not(buyer("a"))), exempt(not(buyer("a"))), exempt(not(buyer("a"))))
}

// P14.1: a condition of MaxNodes nodes, one that is MaxDeep deep; more of them
// are read, and may not be.
func TestReadGreatConditions(t *testing.T) {
	ors := func(n int) string {
		return "place a;\n exempt a when " + strings.Repeat("buyer a or ", n-1) + "buyer a;"
	}
	place := api.Decl{Kind: api.DeclPlace, Name: "a"}
	wantRead(t, ors(63), place, exempt(or(slices.Repeat([][]api.Node{buyer("a")}, 63)...)))
	wantSpot(t, ors(64), api.ErrTree, 2, 2)
	wantSpot(t, ors(5000), api.ErrTree, 2, 2)
	wantRead(t, "exempt a when "+strings.Repeat("not ", 15)+"buyer a;", exempt(nots(15, buyer("a"))))
	deep, want := "buyer a", buyer("a")
	for n := 2; n <= 17; n++ {
		if kind := api.NodeOr + api.NodeKind(n%2); kind == api.NodeOr {
			deep, want = "("+deep+" or buyer a)", or(want, buyer("a"))
		} else {
			deep, want = "("+deep+" and buyer a)", and(want, buyer("a"))
		}
		if n <= 16 {
			wantRead(t, "exempt a when "+deep+";", exempt(want))
		} else {
			wantSpot(t, "exempt a when "+deep+";", api.ErrTree, 1, 1)
		}
	}
}

// P14.1: a text of just MaxSource bytes is read, one of a byte more is not.
func TestReadLongest(t *testing.T) {
	place := api.Decl{Kind: api.DeclPlace, Name: "a"}
	blanks := func(n int) string { return strings.Repeat(" ", n) }
	for _, pair := range [][2]string{{"place a;", ""}, {"", "place a;"}, {"place a", ";"}, {"", "place a;#"}, {"#\n", "place a;"}} {
		room := api.MaxSource - len(pair[0]) - len(pair[1])
		wantRead(t, pair[0]+blanks(room)+pair[1], place)
		wantSpot(t, pair[0]+blanks(room+1)+pair[1], api.ErrLong, 1, 1)
		wantSpot(t, pair[0]+blanks(room+1<<20)+pair[1], api.ErrLong, 1, 1)
	}
	for _, s := range []string{"!", "place", ";", "\xff", "place place "} {
		wantSpot(t, strings.Repeat(s, api.MaxSource/len(s)+1), api.ErrLong, 1, 1)
	}
	full := strings.Repeat("place aaaaaaaaaaaaaaaaaaaaaaaa;\n", 2048)
	if len(full) != api.MaxSource {
		t.Fatalf("it has %d bytes", len(full))
	}
	name := strings.Repeat("a", 24)
	wantRead(t, full, slices.Repeat([]api.Decl{{Kind: api.DeclPlace, Name: name}}, 2048)...)
	wantSpot(t, full+" ", api.ErrLong, 1, 1)
	wantSpot(t, strings.Repeat("a ", api.MaxSource/2), api.ErrSyntax, 1, 1)
	wantSpot(t, "exempt a when "+strings.Repeat("(", api.MaxSource-14), api.ErrSyntax, 1, 31)
	wantSpot(t, "tax a in b round line up on "+strings.Repeat("x,", 32754), api.ErrSyntax, 1, api.MaxSource+1)
	wantSpot(t, "tax a in b round line up on "+strings.Repeat("x,", 32753)+"x;", api.ErrLong, 1, 1)
	wantSpot(t, "rate a "+strings.Repeat("1%,", 21842)+"1%;", api.ErrSchedule, 1, 1)
}

// P14.1: MaxDecls declarations; one more is told behind all that is wrong in the
// text, ahead of all that may not be.
func TestReadMany(t *testing.T) {
	const one = "least a 1;\n"
	wantRead(t, strings.Repeat(one, api.MaxDecls), slices.Repeat([]api.Decl{least(number(1, 0))}, api.MaxDecls)...)
	more := strings.Repeat(one, api.MaxDecls+1)
	wantSpot(t, "\n "+more, api.ErrLong, 1, 1)
	wantSpot(t, more+more, api.ErrLong, 1, 1)
	wantSpot(t, "currency EUR 5;"+more, api.ErrLong, 1, 1)
	wantSpot(t, more+"currency EUR 5;", api.ErrLong, 1, 1)
	wantSpot(t, more+";", api.ErrSyntax, api.MaxDecls+2, 1)
	wantSpot(t, more+"!", api.ErrToken, api.MaxDecls+2, 1)
	wantSpot(t, more+"least a", api.ErrSyntax, api.MaxDecls+2, 8)
	wantSpot(t, strings.Repeat(one, api.MaxDecls-1)+" currency EUR 5;", api.ErrArg, api.MaxDecls, 2)
}

// P14.1: what may not be is told at the first token of its declaration, and the
// first one of several.
func TestReadFaults(t *testing.T) {
	faults := map[string]api.Errno{
		"currency EUR 5;":                          api.ErrArg,
		"currency EUR 9;":                          api.ErrArg,
		"place nnnnnnnnnnnnnnnnnnnnnnnnn;":         api.ErrName,
		"rate a 1%, 2%;":                           api.ErrSchedule,
		"rate a 1%, 2% above 0;":                   api.ErrSchedule,
		"rate a 1%, 2% above 5, 3% above 5.0;":     api.ErrSchedule,
		"rate a 1% above 1;":                       api.ErrSchedule,
		"rate a 101%;":                             api.ErrSchedule,
		"rate a 100.000000001%;":                   api.ErrSchedule,
		"exempt a from 2024-01-01 to 2024-01-01;":  api.ErrSpan,
		"exempt a to 0001-01-01;":                  api.ErrSpan,
		"least a from 2024-01-02 to 2024-01-01 1;": api.ErrSpan,
		"tax a in b round line up on " + strings.Repeat("x, ", 16) + "x;": api.ErrLong,
		"exempt a for food.rate;":                                  api.ErrClass,
		"exempt a when " + strings.Repeat("not ", 16) + "buyer b;": api.ErrTree,
	}
	for src, err := range faults {
		wantSpot(t, src, err, 1, 1)
		wantSpot(t, "\n# x\n\t "+src, err, 3, 3)
		wantSpot(t, "place a;"+src, err, 1, 9)
		wantSpot(t, "place a; # !\n "+src+" place b;", err, 2, 2)
		wantSpot(t, src+" "+src, err, 1, 1)
		wantSpot(t, src+"!", api.ErrToken, 1, len(src)+1)
		wantSpot(t, src+"\n;", api.ErrSyntax, 2, 1)
		wantSpot(t, src+" least a 0.0000000001", api.ErrOver, 1, len(src)+10)
		for other, first := range faults {
			wantSpot(t, other+"\n"+src, first, 1, 1)
		}
	}
}
