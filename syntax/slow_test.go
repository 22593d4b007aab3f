package syntax_test

// The second half: what a text says, by patterns and a stack of operators; what
// may be, field by field; declarations told as tokens with a blank between each
// two, out of which those that are too many are taken.

import (
	"math/big"
	"reflect"
	"regexp"
	"slices"
	"strconv"
	"strings"
	"testing"
	"time"

	"tollbook/api"
	"tollbook/traits"
)

const last = api.MaxDate + 1

var dayOne = time.Date(1, 1, 1, 0, 0, 0, 0, time.UTC)

func isDay(s string) bool {
	day, err := time.Parse("2006-01-02", s)
	return err == nil && day.Year() >= 1
}

func dayOf(s string) api.Date {
	day, _ := time.Parse("2006-01-02", s)
	return api.Date((day.Unix() - dayOne.Unix()) / 86400)
}

func dayText(d api.Date) string {
	return dayOne.AddDate(0, 0, int(d)).Format("2006-01-02")
}

// slowNumber is a number as a decimal, and whether there is such a one.
func slowNumber(s string) (api.Dec, bool) {
	ahead, fraction, _ := strings.Cut(s, ".")
	fraction = strings.TrimRight(fraction, "0")
	units, ok := new(big.Int).SetString(ahead+fraction, 10)
	if !ok || !units.IsInt64() || len(fraction) > 9 {
		return api.Dec{}, false
	}
	return api.Dec{Units: units.Int64(), Places: len(fraction)}, true
}

func isThere(s string) bool {
	_, ok := slowNumber(s)
	return ok
}

func worth(d api.Dec) *big.Rat {
	ten := new(big.Int).Exp(big.NewInt(10), big.NewInt(int64(d.Places)), nil)
	return new(big.Rat).SetFrac(big.NewInt(d.Units), ten)
}

func numberText(d api.Dec) string { return worth(d).FloatString(d.Places) }

// The patterns are for tokens with a blank between each two.
const (
	listForm  = `((?:\S+ , )*\S+)`
	classForm = `(?: for (\S+))?`
	spanForm  = `(?: from (\S+))?(?: to (\S+))?`
)

var (
	currencyForm = regexp.MustCompile(`^currency ([A-Z]{3}) (\d) ;$`)
	placeForm    = regexp.MustCompile(`^place (\S+)(?: in (\S+))?(?: money ([A-Z]{3}))? ;$`)
	taxForm      = regexp.MustCompile(`^tax (\S+) in (\S+) round (line|invoice) (floor|ceil|up|down|even)(?: on ` + listForm + `)?(?: instead ` + listForm + `)? ;$`)
	rateForm     = regexp.MustCompile(`^rate (\S+)` + classForm + spanForm + ` (\d.*) ;$`)
	exemptForm   = regexp.MustCompile(`^exempt (\S+)` + classForm + spanForm + `(?: when (.*))? ;$`)
	leastForm    = regexp.MustCompile(`^least (\S+)` + spanForm + ` (\d\S*) ;$`)
	bracketForm  = regexp.MustCompile(`^(\S+) %(?: above (\S+))?$`)
)

func modeNames() []string { return []string{"", "floor", "ceil", "up", "down", "even"} }
func opTexts() []string   { return []string{"", "<", "<=", ">", ">="} }

func listOf(s string) []string {
	if s == "" {
		return nil
	}
	return strings.Split(s, " , ")
}

func spanOf(from, to string) api.Span {
	s := api.Span{To: last}
	if from != "" {
		s.From = dayOf(from)
	}
	if to != "" {
		s.To = dayOf(to)
	}
	return s
}

// slowDecl is for the tokens of one declaration that stands in the grammar.
func slowDecl(t *testing.T, s string) api.Decl {
	t.Helper()
	if m := currencyForm.FindStringSubmatch(s); m != nil {
		digits, _ := strconv.Atoi(m[2])
		return api.Decl{Kind: 1, Name: m[1], Digits: digits}
	}
	if m := placeForm.FindStringSubmatch(s); m != nil {
		return api.Decl{Kind: 2, Name: m[1], In: m[2], Money: m[3]}
	}
	if m := taxForm.FindStringSubmatch(s); m != nil {
		policy := map[string]api.Policy{"line": api.ByLine, "invoice": api.ByInvoice}[m[3]]
		mode := api.Mode(slices.Index(modeNames(), m[4]))
		return api.Decl{Kind: 3, Name: m[1], In: m[2], Policy: policy, Mode: mode, On: listOf(m[5]), Instead: listOf(m[6])}
	}
	if m := rateForm.FindStringSubmatch(s); m != nil {
		d := api.Decl{Kind: 4, Name: m[1], Class: m[2], Span: spanOf(m[3], m[4])}
		for _, part := range strings.Split(m[5], " , ") {
			b := bracketForm.FindStringSubmatch(part)
			if b == nil {
				t.Fatalf("%q is no bracket", part)
			}
			above, _ := slowNumber("0" + b[2])
			percent, _ := slowNumber(b[1])
			d.Brackets = append(d.Brackets, api.Bracket{Above: above, Percent: percent})
		}
		return d
	}
	if m := exemptForm.FindStringSubmatch(s); m != nil {
		return api.Decl{Kind: 5, Name: m[1], Class: m[2], Span: spanOf(m[3], m[4]), When: slowCondition(strings.Fields(m[5]))}
	}
	if m := leastForm.FindStringSubmatch(s); m != nil {
		least, _ := slowNumber(m[4])
		return api.Decl{Kind: 6, Name: m[1], Span: spanOf(m[2], m[3]), Least: least}
	}
	t.Fatalf("%q has no form", s)
	return api.Decl{}
}

type tree struct {
	node api.Node
	kids []tree
}

// flat gives the kids of an Or in an Or, of an And in an And to it.
func (t tree) flat() tree {
	out := tree{node: t.node}
	for _, k := range t.kids {
		k = k.flat()
		if k.node.Kind == t.node.Kind && t.node.Kind != api.NodeNot {
			out.kids = append(out.kids, k.kids...)
		} else {
			out.kids = append(out.kids, k)
		}
	}
	return out
}

func (t tree) list() []api.Node {
	n := t.node
	n.Kids = len(t.kids)
	list := []api.Node{n}
	for _, k := range t.kids {
		list = append(list, k.list()...)
	}
	return list
}

// slowCondition puts operators and trees on two stacks, by how strongly they
// bind.
func slowCondition(list []string) []api.Node {
	if len(list) == 0 {
		return nil
	}
	binds := map[string]int{"(": 0, "or": 1, "and": 2, "not": 3}
	kinds := map[string]api.NodeKind{"or": api.NodeOr, "and": api.NodeAnd, "not": api.NodeNot}
	tests := map[string]api.NodeKind{"buyer": api.NodeBuyer, "line": api.NodeLine, "amount": api.NodeAmount, "quantity": api.NodeQuantity}
	var ops []string
	var trees []tree
	apply := func(least int) {
		for len(ops) > 0 && binds[ops[len(ops)-1]] >= least {
			op := ops[len(ops)-1]
			ops = ops[:len(ops)-1]
			n := 2
			if op == "not" {
				n = 1
			}
			kids := slices.Clone(trees[len(trees)-n:])
			trees = append(trees[:len(trees)-n], tree{api.Node{Kind: kinds[op]}, kids})
		}
	}
	for at := 0; at < len(list); at++ {
		switch s := list[at]; s {
		case "(", "not":
			ops = append(ops, s)
		case "or", "and":
			apply(binds[s])
			ops = append(ops, s)
		case ")":
			apply(1)
			ops = ops[:len(ops)-1]
		case "buyer", "line":
			trees = append(trees, tree{node: api.Node{Kind: tests[s], Name: list[at+1]}})
			at++
		default:
			value, _ := slowNumber(list[at+2])
			trees = append(trees, tree{node: api.Node{Kind: tests[s], Op: api.Op(slices.Index(opTexts(), list[at+1])), Value: value}})
			at += 2
		}
	}
	apply(1)
	return trees[0].flat().list()
}

// slowParse is P14.1.
func slowParse(t *testing.T, src string) ([]api.Decl, api.Spot) {
	t.Helper()
	if len(src) > 65536 {
		return nil, api.Spot{Err: api.ErrLong, Line: 1, Col: 1}
	}
	if spot := watch(t, src); spot.Err != api.OK {
		return nil, spot
	}
	list, _ := tokensAhead(t, src)
	var decls []api.Decl
	var firsts []api.Token
	var texts []string
	for _, x := range list {
		if len(texts) == 0 {
			firsts = append(firsts, x)
		}
		texts = append(texts, x.Text)
		if x.Text == ";" {
			decls = append(decls, slowDecl(t, strings.Join(texts, " ")))
			texts = nil
		}
	}
	if fault := slowCheck(decls); fault.At < 0 {
		return nil, api.Spot{Err: fault.Err, Line: 1, Col: 1}
	} else if fault.Err != api.OK {
		return nil, api.Spot{Err: fault.Err, Line: firsts[fault.At].Line, Col: firsts[fault.At].Col}
	}
	return decls, api.Spot{}
}

// fields are those that each kind has.
func fields() map[api.DeclKind]string {
	return map[api.DeclKind]string{
		api.DeclCurrency: "Kind Name Digits",
		api.DeclPlace:    "Kind Name In Money",
		api.DeclTax:      "Kind Name In Policy Mode On Instead",
		api.DeclRate:     "Kind Name Class Span Brackets",
		api.DeclExempt:   "Kind Name Class Span When",
		api.DeclLeast:    "Kind Name Span Least",
	}
}

func isZero(v reflect.Value) bool {
	return v.IsZero() || v.Kind() == reflect.Slice && v.Len() == 0
}

var (
	wordForm = regexp.MustCompile(`^[a-z][a-z0-9_]{0,23}\z`)
	codeForm = regexp.MustCompile(`^[A-Z]{3}\z`)
)

func isWord(s string) bool { return wordForm.MatchString(s) && !slices.Contains(kept, s) }
func isCode(s string) bool { return codeForm.MatchString(s) }

func isFigure(d api.Dec) bool {
	return d.Units >= 0 && 0 <= d.Places && d.Places <= 9 && (d.Places == 0 || d.Units%10 != 0)
}

// wrongs has at each place whether the declaration is wrong so.
func wrongs(d api.Decl) []bool {
	has := strings.Fields(fields()[d.Kind])
	foreign := len(has) == 0
	v := reflect.ValueOf(d)
	for i := range v.NumField() {
		foreign = foreign || !slices.Contains(has, v.Type().Field(i).Name) && !isZero(v.Field(i))
	}
	noWord := func(s string) bool { return !isWord(s) }
	named := isWord(d.Name)
	if d.Kind == api.DeclCurrency {
		named = isCode(d.Name)
	}
	wrongIn := d.In != "" && !isWord(d.In) || d.In == "" && d.Kind == api.DeclTax
	wrongList := slices.ContainsFunc(d.On, noWord) || slices.ContainsFunc(d.Instead, noWord)
	wrongTax := d.Policy != 1 && d.Policy != 2 || d.Mode < 1 || d.Mode > 5
	parts := strings.Split(d.Class, ".")
	timed := slices.Contains(has, "Span")
	return []bool{
		foreign,
		!named || wrongIn || d.Money != "" && !isCode(d.Money) || wrongList,
		len(d.On) > 16 || len(d.Instead) > 16,
		d.Digits < 0 || d.Digits > 4 || d.Kind == api.DeclTax && wrongTax,
		d.Class != "" && (len(parts) > 8 || slices.ContainsFunc(parts, noWord)),
		timed && !(0 <= d.Span.From && d.Span.From < d.Span.To && d.Span.To <= 3652059),
		d.Kind == api.DeclRate && !slowSchedule(d.Brackets),
		!isFigure(d.Least),
		traits.Check(d.When) != api.OK,
	}
}

func slowSchedule(list []api.Bracket) bool {
	ok := 1 <= len(list) && len(list) <= 8
	for i, b := range list {
		if !isFigure(b.Above) || !isFigure(b.Percent) {
			return false
		}
		ok = ok && worth(b.Percent).Cmp(big.NewRat(100, 1)) <= 0
		if i == 0 {
			ok = ok && worth(b.Above).Sign() == 0
		} else {
			ok = ok && worth(b.Above).Cmp(worth(list[i-1].Above)) > 0
		}
	}
	return ok
}

// slowCheck is P14.2.
func slowCheck(decls []api.Decl) api.Fault {
	if len(decls) > 2048 {
		return api.Fault{Err: api.ErrLong, At: -1}
	}
	errs := []api.Errno{api.ErrSyntax, api.ErrName, api.ErrLong, api.ErrArg, api.ErrClass, api.ErrSpan, api.ErrSchedule, api.ErrDecimal, api.ErrTree}
	for at, d := range decls {
		if i := slices.Index(wrongs(d), true); i >= 0 {
			return api.Fault{Err: errs[i], At: at}
		}
	}
	return api.Fault{}
}

// treeTexts are a condition's tokens; the tree is taken off the front of list.
func treeTexts(list *[]api.Node, over api.NodeKind) []string {
	n := (*list)[0]
	*list = (*list)[1:]
	var out []string
	for i := range n.Kids {
		if i > 0 {
			out = append(out, []string{"", "or", "and"}[n.Kind])
		}
		out = append(out, treeTexts(list, n.Kind)...)
	}
	framed := n.Kind == api.NodeOr && (over == api.NodeAnd || over == api.NodeNot) || n.Kind == api.NodeAnd && over == api.NodeNot
	switch {
	case framed:
		return slices.Concat([]string{"("}, out, []string{")"})
	case n.Kind == api.NodeNot:
		return append([]string{"not"}, out...)
	case n.Kind == api.NodeBuyer:
		return []string{"buyer", n.Name}
	case n.Kind == api.NodeLine:
		return []string{"line", n.Name}
	case n.Kind == api.NodeAmount:
		return []string{"amount", opTexts()[n.Op], numberText(n.Value)}
	case n.Kind == api.NodeQuantity:
		return []string{"quantity", opTexts()[n.Op], numberText(n.Value)}
	}
	return out
}

// declTexts are the tokens of a declaration that may be.
func declTexts(d api.Decl) []string {
	out := []string{[]string{"", "currency", "place", "tax", "rate", "exempt", "least"}[d.Kind], d.Name}
	put := func(is bool, texts ...string) {
		if is {
			out = append(out, texts...)
		}
	}
	put(d.Kind == api.DeclCurrency, strconv.Itoa(d.Digits))
	put(d.In != "", "in", d.In)
	put(d.Money != "", "money", d.Money)
	if d.Kind == api.DeclTax {
		put(true, "round", []string{"", "line", "invoice"}[d.Policy], modeNames()[d.Mode])
	}
	put(len(d.On) > 0, "on", strings.Join(d.On, " , "))
	put(len(d.Instead) > 0, "instead", strings.Join(d.Instead, " , "))
	put(d.Class != "", "for", d.Class)
	put(d.Span.From != 0, "from", dayText(d.Span.From))
	put(d.Span.To != 0 && d.Span.To != last, "to", dayText(d.Span.To))
	for i, b := range d.Brackets {
		put(i > 0, ",")
		put(true, numberText(b.Percent), "%")
		put(i > 0, "above", numberText(b.Above))
	}
	if list := slices.Clone(d.When); len(list) > 0 {
		put(true, "when")
		put(true, treeTexts(&list, 0)...)
	}
	put(d.Kind == api.DeclLeast, numberText(d.Least))
	return append(out, ";")
}

var (
	blankAhead  = regexp.MustCompile(` ([;,%)])`)
	blankBehind = regexp.MustCompile(`\( `)
)

// slowPrint is P14.3.
func slowPrint(decls []api.Decl) (string, api.Fault) {
	if fault := slowCheck(decls); fault.Err != api.OK {
		return "", fault
	}
	all := ""
	for _, d := range decls {
		line := strings.Join(declTexts(d), " ")
		all += blankBehind.ReplaceAllString(blankAhead.ReplaceAllString(line, "$1"), "(") + "\n"
	}
	if len(all) > 65536 {
		return "", api.Fault{Err: api.ErrLong, At: -1}
	}
	return all, api.Fault{}
}

// slowSame is P14.4; nil and empty lists are one.
func slowSame(a, b []api.Decl) bool {
	if len(a) != len(b) {
		return false
	}
	for i := range a {
		x, y := reflect.ValueOf(a[i]), reflect.ValueOf(b[i])
		for f := range x.NumField() {
			if !(isZero(x.Field(f)) && isZero(y.Field(f))) && !reflect.DeepEqual(x.Field(f).Interface(), y.Field(f).Interface()) {
				return false
			}
		}
	}
	return true
}

// The slow ways are themselves held against what anyone knows.
func TestSlow(t *testing.T) {
	if dayOf("2024-01-01") != 738885 || dayText(738885) != "2024-01-01" || dayText(0) != "0001-01-01" || dayText(api.MaxDate) != "9999-12-31" || isDay("2023-02-29") || isDay("0000-01-01") || !isDay("2024-02-29") {
		t.Error("the slow days")
	}
	if d, ok := slowNumber("007.50"); d != (api.Dec{Units: 75, Places: 1}) || !ok || isThere("0.0000000001") || !isThere("9223372036854775807") || isThere("9223372036854775808") || !isThere("1.0000000000") {
		t.Error("the slow numbers")
	}
	src := "exempt vat when not (buyer a or (line b or amount<1.50));"
	decls, spot := slowParse(t, src)
	want := []api.Node{{Kind: api.NodeNot, Kids: 1}, {Kind: api.NodeOr, Kids: 3}, {Kind: api.NodeBuyer, Name: "a"}, {Kind: api.NodeLine, Name: "b"}, {Kind: api.NodeAmount, Op: api.OpBelow, Value: api.Dec{Units: 15, Places: 1}}}
	if spot != (api.Spot{}) || len(decls) != 1 || !slices.Equal(decls[0].When, want) {
		t.Errorf("the slow Parse is %v, %v", decls, spot)
	}
	if s, _ := slowPrint(decls); s != "exempt vat when not (buyer a or line b or amount < 1.5);\n" {
		t.Errorf("the slow Print is %q", s)
	}
	if slowSame(decls, nil) || !slowSame(decls, slices.Clone(decls)) || !slowSame([]api.Decl{{On: []string{}}}, []api.Decl{{}}) || slowSame([]api.Decl{{Digits: 1}}, []api.Decl{{}}) {
		t.Error("the slow Same")
	}
	if slowCheck([]api.Decl{{Kind: 2, Name: "de", Mode: 1}}) != (api.Fault{Err: api.ErrSyntax}) || slowCheck([]api.Decl{{Kind: 2, Name: "de"}}) != (api.Fault{}) {
		t.Error("the slow Check")
	}
}
