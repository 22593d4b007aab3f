package syntax_test

// Declarations without an order, texts that say them with more than they need,
// and what the tests ask of both.

import (
	"slices"
	"strconv"
	"strings"
	"testing"

	"tollbook/api"
	"tollbook/syntax"
	"tollbook/traits"
)

// book is the rule book of the document's examples.
const book = `currency EUR 2;
currency JPY 0;
currency USD 2;
place berlin in de;
place de in eu;
place eu money EUR;
place us money USD;
tax city in berlin round line even on vat;
tax duty in eu round line up;
tax vat in de round invoice up;
rate city 2%, 5% above 100;
rate duty for wine 0%, 10% above 20;
rate vat for food from 2020-01-01 to 2024-01-01 7%;
rate vat from 2020-01-01 19%;
exempt vat for food when buyer school;
least city 1000;
`

func short(s string) string {
	if len(s) > 200 {
		return s[:200] + ".."
	}
	return s
}

// wantRead asks that a text says these declarations, and nothing else.
func wantRead(t *testing.T, src string, decls ...api.Decl) {
	t.Helper()
	got, spot := syntax.Parse(src)
	if spot != (api.Spot{}) || !slowSame(got, decls) {
		t.Errorf("Parse(%q) is %v, %v, not %v", short(src), got, spot, decls)
	}
	wantPlain(t, src)
}

// wantSpot asks that a text is refused there, and that nothing is told beside.
func wantSpot(t *testing.T, src string, err api.Errno, line, col int) {
	t.Helper()
	want := api.Spot{Err: err, Line: line, Col: col}
	if got, spot := syntax.Parse(src); len(got) > 0 || spot != want {
		t.Errorf("Parse(%q) is %v, %v, not %v", short(src), got, spot, want)
	}
	wantPlain(t, src)
}

// wantPlain holds Parse against the slow way.
func wantPlain(t *testing.T, src string) {
	t.Helper()
	want, wantSpot := slowParse(t, src)
	if got, spot := syntax.Parse(src); !slowSame(got, want) || spot != wantSpot {
		t.Errorf("Parse(%q) is %v, %v, not %v, %v", short(src), got, spot, want, wantSpot)
	}
}

// wantFault asks Check and Print, the declarations being wrong there.
func wantFault(t *testing.T, err api.Errno, at int, decls ...api.Decl) {
	t.Helper()
	want := api.Fault{Err: err, At: at}
	if fault := syntax.Check(decls); fault != want {
		t.Errorf("Check(%.300v) is %v, not %v", decls, fault, want)
	}
	if s, fault := syntax.Print(decls); s != "" || fault != want {
		t.Errorf("Print(%.300v) is %q, %v, not %v", decls, short(s), fault, want)
	}
	if slowCheck(decls) != want {
		t.Errorf("the slow Check(%.300v) is %v, not %v", decls, slowCheck(decls), want)
	}
}

// wantPrint asks that declarations may be and are printed so, and are read from
// that.
func wantPrint(t *testing.T, want string, decls ...api.Decl) {
	t.Helper()
	if fault := syntax.Check(decls); fault != (api.Fault{}) {
		t.Errorf("Check(%v) is %v", decls, fault)
	}
	if s, fault := syntax.Print(decls); s != want || fault != (api.Fault{}) {
		t.Errorf("Print(%v) is %q, %v, not %q", decls, short(s), fault, short(want))
	}
	if s, _ := slowPrint(decls); s != want {
		t.Errorf("the slow Print(%v) is %q, not %q", decls, short(s), short(want))
	}
	wantRead(t, want, decls...)
}

// mixed tells numbers without an order, the same ones in every run.
type mixed uint64

func (x *mixed) next() uint64 {
	*x += 0x9e3779b97f4a7c15
	z := uint64(*x)
	z = (z ^ z>>30) * 0xbf58476d1ce4e5b9
	z = (z ^ z>>27) * 0x94d049bb133111eb
	return z ^ z>>31
}

func (x *mixed) below(n int) int        { return int(x.next() % uint64(n)) }
func (x *mixed) one(of []string) string { return of[x.below(len(of))] }
func (x *mixed) odds(n int) bool        { return x.below(n) == 0 }

func (x *mixed) word() string {
	return x.one([]string{"a", "b", "vat", "city", "de", "x_1", "z9_", "lines", "ors", "taxes", "in1", "even_", strings.Repeat("w", 24)})
}

func (x *mixed) code() string { return x.one([]string{"EUR", "USD", "AAA", "ZZZ"}) }

func (x *mixed) words() []string {
	var list []string
	for range x.below(18) - 1 {
		list = append(list, x.word())
	}
	return list
}

func (x *mixed) class() string {
	var parts []string
	for range x.below(9) {
		parts = append(parts, x.word())
	}
	return strings.Join(parts, ".")
}

// decimal is one that may be, not below 0.
func (x *mixed) decimal(most int64) api.Dec {
	d := api.Dec{Units: int64(x.next()>>1) % (most + 1), Places: x.below(10)}
	if x.odds(2) {
		d.Units %= 100
	}
	for d.Places > 0 && d.Units%10 == 0 {
		d.Units, d.Places = d.Units/10, d.Places-1
	}
	return d
}

func (x *mixed) span() api.Span {
	s := api.Span{From: api.Date(x.below(last)), To: api.Date(x.below(last + 1))}
	if s.From > s.To {
		s.From, s.To = s.To, s.From
	}
	if x.odds(3) {
		s.From = 0
	}
	if x.odds(3) || s.From >= s.To {
		s.To = last
	}
	return s
}

func (x *mixed) brackets() []api.Bracket {
	list := []api.Bracket{{Percent: x.decimal(100)}}
	for range x.below(8) {
		above := x.decimal(1 << 40)
		if worth(above).Cmp(worth(list[len(list)-1].Above)) > 0 {
			list = append(list, api.Bracket{Above: above, Percent: x.decimal(100)})
		}
	}
	return list
}

func (x *mixed) test() api.Node {
	switch x.below(4) {
	case 0:
		return api.Node{Kind: api.NodeBuyer, Name: x.word()}
	case 1:
		return api.Node{Kind: api.NodeLine, Name: x.word()}
	case 2:
		return api.Node{Kind: api.NodeAmount, Op: api.Op(1 + x.below(4)), Value: x.decimal(1<<62 - 1)}
	default:
		return api.Node{Kind: api.NodeQuantity, Op: api.Op(1 + x.below(4)), Value: x.decimal(1000)}
	}
}

func (x *mixed) tree(room *int, over api.NodeKind, deep int) tree {
	*room--
	kind := api.NodeKind(1 + x.below(3))
	if kind == over && kind != api.NodeNot {
		kind = api.NodeOr + api.NodeAnd - kind
	}
	if *room < 2 || deep < 2 || x.odds(8) {
		return tree{node: x.test()}
	}
	wanted := 1
	if kind != api.NodeNot {
		wanted = 2 + x.below(4)
	}
	out := tree{node: api.Node{Kind: kind}}
	for range wanted {
		out.kids = append(out.kids, x.tree(room, kind, deep-1))
	}
	return out
}

func (x *mixed) condition() []api.Node {
	if x.odds(6) {
		return nil
	}
	for {
		room := 1 + x.below(api.MaxNodes)
		if list := x.tree(&room, 0, 1+x.below(api.MaxDeep)).list(); traits.Check(list) == api.OK {
			return list
		}
	}
}

// decl is a declaration that may be.
func (x *mixed) decl() api.Decl {
	d := api.Decl{Kind: api.DeclKind(1 + x.below(6)), Name: x.word()}
	switch d.Kind {
	case api.DeclCurrency:
		d.Name, d.Digits = x.code(), x.below(5)
	case api.DeclPlace:
		if x.odds(2) {
			d.In = x.word()
		}
		if x.odds(2) {
			d.Money = x.code()
		}
	case api.DeclTax:
		d.In, d.Policy, d.Mode = x.word(), api.Policy(1+x.below(2)), api.Mode(1+x.below(5))
		d.On, d.Instead = x.words(), x.words()
	case api.DeclRate:
		d.Class, d.Span, d.Brackets = x.class(), x.span(), x.brackets()
	case api.DeclExempt:
		d.Class, d.Span, d.When = x.class(), x.span(), x.condition()
	default:
		d.Span, d.Least = x.span(), x.decimal(1<<62-1)
	}
	return d
}

func (x *mixed) decls(most int) []api.Decl {
	var list []api.Decl
	for range x.below(most + 1) {
		list = append(list, x.decl())
	}
	return list
}

// noisyNumber has noughts that count nothing.
func (x *mixed) noisyNumber(d api.Dec) string {
	s := strings.Repeat("0", x.below(3)) + numberText(d)
	if d.Places == 0 && x.odds(2) {
		s += ".0"
	}
	if strings.Contains(s, ".") {
		s += strings.Repeat("0", x.below(12))
	}
	return s
}

// noisyTree has ( ) where none need be, and kids of one node in several.
func (x *mixed) noisyTree(t tree, over api.NodeKind) []string {
	if len(t.kids) > 2 && x.odds(3) {
		cut := 2 + x.below(len(t.kids)-2)
		first := tree{t.node, t.kids[:cut]}
		t = tree{t.node, append([]tree{first}, t.kids[cut:]...)}
	}
	var out []string
	switch t.node.Kind {
	case api.NodeOr, api.NodeAnd:
		for i, k := range t.kids {
			if i > 0 {
				out = append(out, []string{"", "or", "and"}[t.node.Kind])
			}
			out = append(out, x.noisyTree(k, t.node.Kind)...)
		}
	case api.NodeNot:
		out = append([]string{"not"}, x.noisyTree(t.kids[0], t.node.Kind)...)
	case api.NodeBuyer, api.NodeLine:
		out = []string{[]string{"buyer", "line"}[t.node.Kind-api.NodeBuyer], t.node.Name}
	default:
		out = []string{[]string{"amount", "quantity"}[t.node.Kind-api.NodeAmount], opTexts()[t.node.Op], x.noisyNumber(t.node.Value)}
	}
	inner := t.node.Kind == api.NodeOr || t.node.Kind == api.NodeAnd
	if inner && (over == api.NodeAnd || over == api.NodeNot) || x.odds(8) {
		out = slices.Concat([]string{"("}, out, []string{")"})
	}
	return out
}

// treeOf is the tree of a condition.
func treeOf(list []api.Node) tree {
	var stack []tree
	for _, n := range slices.Backward(list) {
		rest := len(stack) - n.Kids
		kids := slices.Clone(stack[rest:])
		slices.Reverse(kids)
		stack = append(stack[:rest], tree{n, kids})
	}
	return stack[0]
}

// mostOpen is for tokens of a condition: how many "not" and "(" are open at one
// time at most.
func mostOpen(list []string) int {
	var open []string
	most := 0
	closeNots := func() {
		for len(open) > 0 && open[len(open)-1] == "not" {
			open = open[:len(open)-1]
		}
	}
	for _, s := range list {
		switch s {
		case "not", "(":
			open = append(open, s)
			most = max(most, len(open))
		case ")":
			closeNots()
			open = open[:len(open)-1]
		case "and", "or":
			closeNots()
		}
	}
	return most
}

// noisy are the tokens of a declaration, with more than they need.
func (x *mixed) noisy(d api.Decl) []string {
	out := []string{[]string{"", "currency", "place", "tax", "rate", "exempt", "least"}[d.Kind], d.Name}
	put := func(texts ...string) { out = append(out, texts...) }
	switch d.Kind {
	case api.DeclCurrency, api.DeclPlace, api.DeclTax:
		return strings.Fields(strings.Join(declTexts(d), " "))
	}
	if d.Class != "" {
		put("for", d.Class)
	}
	if d.Span.From > 0 || x.odds(2) {
		put("from", dayText(d.Span.From))
	}
	if d.Span.To < last {
		put("to", dayText(d.Span.To))
	}
	for i, b := range d.Brackets {
		if i > 0 {
			put(",")
		}
		put(x.noisyNumber(b.Percent), "%")
		if i > 0 || x.odds(2) {
			put("above", x.noisyNumber(b.Above))
		}
	}
	if d.Kind == api.DeclLeast {
		put(x.noisyNumber(d.Least))
	}
	if len(d.When) > 0 {
		put("when")
		list := x.noisyTree(treeOf(d.When), 0)
		if mostOpen(list) > api.MaxDeep {
			nodes := slices.Clone(d.When)
			list = treeTexts(&nodes, 0)
		}
		put(list...)
	}
	put(";")
	return out
}

func isMark(s string) bool { return strings.Contains("; , ( ) % < > <= >=", s) }

// between is what may stand between two tokens, nothing too, where a mark is one
// of them.
func (x *mixed) between(a, b string) string {
	if (isMark(a) || isMark(b)) && x.odds(2) {
		return ""
	}
	return x.one([]string{" ", " ", "\t", "\n", "\r\n", "  ", " # tax x;\n", "#\n", " \n\t"})
}

func (x *mixed) noisyText(decls []api.Decl) string {
	var texts []string
	for _, d := range decls {
		texts = append(texts, x.noisy(d)...)
	}
	var all strings.Builder
	last := ";"
	for _, s := range texts {
		all.WriteString(x.between(last, s) + s)
		last = s
	}
	return all.String() + x.between(last, ";")
}

// everyToken has one of each sort.
func everyToken() []string {
	list := append(keptWords(), "vat", "a1_", "food.bread", "tax.in", "a.tax", strings.Repeat("n", 24), strings.Repeat("n", 25), strings.Repeat("n", 20)+".b", "EUR", "0", "5", "9", "10", "007", "1.5", "0.0", "100.000000001", "99999999999999999999", "0.0000000001", "2024-02-29", "2023-02-29", "0001-01-01", "9999-12-31", "0000-01-01", "2024-13-01")
	return append(list, ";", ",", "(", ")", "%", "<", ">", "<=", ">=")
}

func number(units int64, places int) api.Dec { return api.Dec{Units: units, Places: places} }

func itoa(n int) string { return strconv.Itoa(n) }
