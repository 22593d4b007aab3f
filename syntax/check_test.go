package syntax_test

import (
	"math"
	"reflect"
	"slices"
	"strings"
	"testing"

	"tollbook/api"
	"tollbook/syntax"
)

func percent(units int64, places int) []api.Bracket {
	return []api.Bracket{{Percent: number(units, places)}}
}

// plainDecls are one of each kind, that may be, with all fields that it has.
func plainDecls() []api.Decl {
	span := api.Span{From: 5, To: 9}
	return []api.Decl{
		{Kind: api.DeclCurrency, Name: "EUR", Digits: 2},
		{Kind: api.DeclPlace, Name: "a", In: "b", Money: "EUR"},
		{Kind: api.DeclTax, Name: "a", In: "b", Policy: api.ByInvoice, Mode: api.ModeUp, On: []string{"c"}, Instead: []string{"d"}},
		{Kind: api.DeclRate, Name: "a", Class: "b.c", Span: span, Brackets: []api.Bracket{{Percent: number(75, 1)}, {Above: number(1, 0), Percent: number(8, 0)}}},
		{Kind: api.DeclExempt, Name: "a", Class: "b.c", Span: span, When: buyer("x")},
		{Kind: api.DeclLeast, Name: "a", Span: span, Least: number(15, 1)},
	}
}

// wantMay asks it of a declaration by itself and behind others.
func wantMay(t *testing.T, d api.Decl) {
	t.Helper()
	for _, list := range [][]api.Decl{{d}, append(plainDecls(), d), {d, d}} {
		if fault := syntax.Check(list); fault != (api.Fault{}) || slowCheck(list) != (api.Fault{}) {
			t.Errorf("Check(%v) is %v", list, fault)
		}
	}
}

// wantMayNot asks it alone, behind declarations that may be, and ahead of one
// that may not.
func wantMayNot(t *testing.T, err api.Errno, d api.Decl) {
	t.Helper()
	wantFault(t, err, 0, d)
	wantFault(t, err, 6, append(plainDecls(), d)...)
	wantFault(t, err, 1, plainDecls()[0], d, api.Decl{})
	wantFault(t, api.ErrSyntax, 0, api.Decl{Kind: 9}, d)
}

// P14.2: the chapter's examples.
func TestCheckExamples(t *testing.T) {
	wantFault(t, api.ErrSyntax, 0, api.Decl{Kind: 7})
	wantFault(t, api.ErrArg, 0, api.Decl{Kind: api.DeclCurrency, Name: "EUR", Digits: 5})
	wantFault(t, api.ErrSyntax, 0, api.Decl{Kind: api.DeclPlace, Name: "de", Mode: 1})
	wantFault(t, api.ErrDecimal, 0, api.Decl{Kind: api.DeclLeast, Name: "a", Span: api.Span{To: 1}, Least: number(10, 1)})
	wantFault(t, api.ErrLong, -1, make([]api.Decl, 2049)...)
	for _, d := range plainDecls() {
		wantMay(t, d)
	}
	if fault := syntax.Check(nil); fault != (api.Fault{}) {
		t.Errorf("Check of none is %v", fault)
	}
}

// P14.2: how many declarations there may be, ahead of all else.
func TestCheckMany(t *testing.T) {
	place := api.Decl{Kind: api.DeclPlace, Name: "a"}
	list := slices.Repeat([]api.Decl{place}, api.MaxDecls)
	if fault := syntax.Check(list); fault != (api.Fault{}) {
		t.Errorf("Check of 2048 is %v", fault)
	}
	wantFault(t, api.ErrName, api.MaxDecls-1, append(slices.Clone(list[1:]), api.Decl{Kind: api.DeclPlace})...)
	wantFault(t, api.ErrLong, -1, append(list, place)...)
	wantFault(t, api.ErrLong, -1, append([]api.Decl{{}}, list...)...)
	wantFault(t, api.ErrLong, -1, make([]api.Decl, 1<<16)...)
}

// P14.2, 1: kinds that are none.
func TestCheckKinds(t *testing.T) {
	for _, d := range append(plainDecls(), api.Decl{}) {
		for _, kind := range []api.DeclKind{0, -1, 7, 8, 100, math.MinInt, math.MaxInt} {
			d.Kind = kind
			wantMayNot(t, api.ErrSyntax, d)
		}
	}
}

// others are values that are not zero, for each field.
func others() map[string][]any {
	return map[string][]any{
		"Name":     {"a", "A", "EUR", " "},
		"Digits":   {1, 4, 5, -1, math.MinInt, math.MaxInt},
		"In":       {"b", "B", "tax", "\x00"},
		"Money":    {"EUR", "eur", " "},
		"Policy":   {api.ByLine, api.ByInvoice, api.Policy(3), api.Policy(-1)},
		"Mode":     {api.ModeFloor, api.ModeEven, api.Mode(6), api.Mode(-1)},
		"On":       {[]string{"a"}, []string{""}, make([]string, 17)},
		"Instead":  {[]string{"a"}, []string{""}, make([]string, 17)},
		"Class":    {"a", "a.b", ".", " "},
		"Span":     {api.Span{To: 1}, api.Span{From: 1}, api.Span{From: -1}, api.Span{From: -1, To: -1}, always()},
		"Brackets": {[]api.Bracket{{}}, percent(5, 0), make([]api.Bracket, 9)},
		"When":     {buyer("a"), []api.Node{{}}, make([]api.Node, 65)},
		"Least":    {number(1, 0), number(-1, 0), number(0, 1), number(0, -1), number(10, 1)},
	}
}

// P14.2, 1: each field that a kind has not, with each value; empty lists are no
// fields that it has.
func TestCheckForeignFields(t *testing.T) {
	for _, d := range plainDecls() {
		has := strings.Fields(fields()[d.Kind])
		for name, values := range others() {
			if slices.Contains(has, name) {
				continue
			}
			for _, value := range values {
				wrong := d
				reflect.ValueOf(&wrong).Elem().FieldByName(name).Set(reflect.ValueOf(value))
				wantMayNot(t, api.ErrSyntax, wrong)
				wrong.Name, wrong.Digits = wrong.Name+"!", wrong.Digits-10
				wantMayNot(t, api.ErrSyntax, wrong)
			}
		}
		for _, list := range []*[]string{&d.On, &d.Instead} {
			if *list == nil {
				*list = []string{}
			}
		}
		if d.Brackets == nil {
			d.Brackets = []api.Bracket{}
		}
		if d.When == nil {
			d.When = make([]api.Node, 0, 5)
		}
		wantMay(t, d)
	}
}

func noWords() []string {
	list := []string{"", "A", "Vat", "1a", "_a", "a.b", "a-b", "a ", " a", "é", "a\n", "\x00", "a!", strings.Repeat("a", 25), strings.Repeat("a", 1000)}
	return append(list, keptWords()...)
}

func noCodes() []string {
	return []string{"", "EU", "EURO", "eur", "EUr", "EU1", "EUR ", " EUR", "E R", "ÄUR", "\x00\x00\x00", "tax"}
}

// P14.2, 2: names that are none, in each field of each kind.
func TestCheckNames(t *testing.T) {
	all := plainDecls()
	for _, d := range all {
		wrong := noWords()
		if d.Kind == api.DeclCurrency {
			wrong = noCodes()
		}
		for _, name := range wrong {
			d.Name = name
			wantMayNot(t, api.ErrName, d)
		}
	}
	place, tax := all[1], all[2]
	for _, name := range noWords() {
		if name != "" {
			d := place
			d.In = name
			wantMayNot(t, api.ErrName, d)
		}
		d := tax
		d.In = name
		wantMayNot(t, api.ErrName, d)
		for n := range 3 {
			list := slices.Insert([]string{"x", "y"}, n, name)
			d = tax
			d.On = list
			wantMayNot(t, api.ErrName, d)
			d = tax
			d.Instead = list
			wantMayNot(t, api.ErrName, d)
		}
	}
	for _, code := range noCodes() {
		if code != "" {
			d := place
			d.Money = code
			wantMayNot(t, api.ErrName, d)
		}
	}
	for _, name := range []string{"a", "z", "a_1", "lines", "tax_", strings.Repeat("z", 24)} {
		wantMay(t, api.Decl{Kind: api.DeclPlace, Name: name, In: name})
		wantMay(t, api.Decl{Kind: api.DeclPlace, Name: name, Money: "ZZZ"})
		wantMay(t, api.Decl{Kind: api.DeclTax, Name: name, In: name, Policy: api.ByLine, Mode: api.ModeFloor, On: []string{name, name}, Instead: []string{name}})
	}
}

// P14.2, 3: as many names as there may be; one more, which are all words.
func TestCheckLists(t *testing.T) {
	tax := api.Decl{Kind: api.DeclTax, Name: "a", In: "b", Policy: api.ByLine, Mode: api.ModeUp}
	for n := range 40 {
		list := slices.Repeat([]string{"x"}, n)
		for which := 1; which < 4; which++ {
			d := tax
			if which&1 > 0 {
				d.On = list
			}
			if which&2 > 0 {
				d.Instead = list
			}
			if n <= api.MaxNames {
				wantMay(t, d)
				continue
			}
			wantMayNot(t, api.ErrLong, d)
			d.Mode = 9
			wantMayNot(t, api.ErrLong, d)
			d.Instead = append(slices.Clone(list), "X")
			wantMayNot(t, api.ErrName, d)
		}
	}
	tax.On = slices.Repeat([]string{"x"}, 20000)
	wantFault(t, api.ErrLong, 0, tax)
}

// P14.2, 4: numbers that are none of those that are counted.
func TestCheckNumbers(t *testing.T) {
	far := []int{math.MinInt, math.MinInt32, -100, -1, 6, 7, 100, math.MaxInt32, math.MaxInt, 1 << 32, 1<<32 + 1}
	for digits := range 5 {
		wantMay(t, api.Decl{Kind: api.DeclCurrency, Name: "EUR", Digits: digits})
	}
	for _, digits := range append(far, 5) {
		wantMayNot(t, api.ErrArg, api.Decl{Kind: api.DeclCurrency, Name: "EUR", Digits: digits})
	}
	tax := api.Decl{Kind: api.DeclTax, Name: "a", In: "b"}
	for policy := range 8 {
		for mode := range 8 {
			d := tax
			d.Policy, d.Mode = api.Policy(policy), api.Mode(mode)
			if 1 <= policy && policy <= 2 && 1 <= mode && mode <= 5 {
				wantMay(t, d)
			} else {
				wantMayNot(t, api.ErrArg, d)
			}
		}
	}
	for _, n := range far {
		d := tax
		d.Policy, d.Mode = api.Policy(n), api.ModeUp
		wantMayNot(t, api.ErrArg, d)
		d.Policy, d.Mode = api.ByLine, api.Mode(n)
		wantMayNot(t, api.ErrArg, d)
	}
}

// P14.2, 5 and 6: classes and spans, of each kind that has them; a class goes
// ahead of a span.
func TestCheckClassesAndSpans(t *testing.T) {
	most := strings.TrimSuffix(strings.Repeat("a.", api.MaxParts), ".")
	for _, d := range plainDecls()[3:] {
		for _, class := range []string{"", "a", "food.bread", most, strings.Repeat("z", 24) + ".a"} {
			if d.Kind != api.DeclLeast {
				d.Class = class
				wantMay(t, d)
			}
		}
		for _, class := range []string{".", "a.", ".a", "a..b", "A", "a.tax", "tax", "a b", most + ".a", strings.Repeat("z", 25), "a\n", strings.Repeat("a.", 10000)} {
			if d.Kind != api.DeclLeast {
				wrong := d
				wrong.Class = class
				wantMayNot(t, api.ErrClass, wrong)
				wrong.Span = api.Span{}
				wantMayNot(t, api.ErrClass, wrong)
			}
		}
		for _, span := range []api.Span{{To: 1}, always(), {From: api.MaxDate, To: last}, {From: 1, To: 2}, {From: api.MaxDate - 1, To: api.MaxDate}} {
			d.Span = span
			wantMay(t, d)
		}
		for _, span := range []api.Span{{}, {From: 1, To: 1}, {From: 2, To: 1}, {From: -1, To: 1}, {From: -1}, {To: -1}, {From: last, To: last}, {From: last, To: last + 1}, {To: last + 1}, {From: math.MinInt, To: math.MaxInt}, {From: math.MaxInt, To: math.MinInt}, {To: math.MaxInt}, {From: math.MinInt, To: 5}, {To: math.MinInt}} {
			d.Span = span
			wantMayNot(t, api.ErrSpan, d)
			d.Brackets, d.When, d.Least = wrongLater(d)
			wantMayNot(t, api.ErrSpan, d)
			d = plainDecls()[d.Kind-1]
		}
	}
}

// wrongLater are what is wrong with a declaration's field of a later number.
func wrongLater(d api.Decl) ([]api.Bracket, []api.Node, api.Dec) {
	switch d.Kind {
	case api.DeclRate:
		return nil, nil, api.Dec{}
	case api.DeclExempt:
		return nil, []api.Node{{}}, api.Dec{}
	}
	return nil, nil, number(-1, 0)
}

// P14.2, 7: brackets: how many, which decimals, how they rise.
func TestCheckSchedules(t *testing.T) {
	rate := api.Decl{Kind: api.DeclRate, Name: "a", Span: always()}
	may := func(list ...api.Bracket) {
		t.Helper()
		d := rate
		d.Brackets = list
		wantMay(t, d)
	}
	mayNot := func(list ...api.Bracket) {
		t.Helper()
		d := rate
		d.Brackets = list
		wantMayNot(t, api.ErrSchedule, d)
	}
	var list []api.Bracket
	mayNot()
	for n := range 12 {
		list = append(list, api.Bracket{Above: number(int64(n), 0), Percent: number(5, 0)})
		if n < api.MaxBrackets {
			may(list...)
		} else {
			mayNot(list...)
		}
	}
	for _, d := range []api.Dec{{}, number(1, 9), number(5, 0), number(100, 0), number(99999999999, 9), number(1, 1)} {
		may(api.Bracket{Percent: d})
		may(api.Bracket{}, api.Bracket{Above: number(1, 9), Percent: d})
	}
	wrong := []api.Dec{number(-1, 0), number(-1, 9), number(math.MinInt64, 0), number(10, 1), number(0, 1), number(5, 10), number(5, -1), number(0, 10), number(0, -1), number(1, math.MaxInt), number(1, math.MinInt)}
	for _, d := range append(wrong, number(101, 0), number(1001, 1), number(100000000001, 9), number(math.MaxInt64, 0)) {
		mayNot(api.Bracket{Percent: d})
		mayNot(api.Bracket{Percent: number(5, 0)}, api.Bracket{Above: number(1, 0), Percent: d})
		mayNot(api.Bracket{Percent: d}, api.Bracket{Above: number(1, 0)})
	}
	for _, d := range append(wrong, number(1, 0), number(1, 9), number(math.MaxInt64, 0)) {
		mayNot(api.Bracket{Above: d})
	}
	for _, d := range wrong {
		mayNot(api.Bracket{}, api.Bracket{Above: d})
		mayNot(api.Bracket{}, api.Bracket{Above: number(1, 0)}, api.Bracket{Above: d})
	}
	rising := []api.Dec{{}, number(1, 9), number(1, 1), number(99, 2), number(1, 0), number(15, 1), number(2, 0), number(math.MaxInt64, 9), number(10000000000, 0), number(math.MaxInt64, 0)}
	for i, low := range rising {
		for j, high := range rising {
			switch {
			case i == 0 && i < j:
				may(api.Bracket{Above: low}, api.Bracket{Above: high})
			case i < j:
				may(api.Bracket{}, api.Bracket{Above: low}, api.Bracket{Above: high})
			default:
				mayNot(api.Bracket{}, api.Bracket{Above: low}, api.Bracket{Above: high})
			}
		}
	}
}

// P14.2, 8 and 9: what is sold at the least, and conditions.
func TestCheckLeastsAndConditions(t *testing.T) {
	for _, d := range []api.Dec{{}, number(1, 0), number(10, 0), number(1, 9), number(math.MaxInt64, 9), number(math.MaxInt64, 0)} {
		wantMay(t, least(d))
	}
	for _, d := range []api.Dec{number(-1, 0), number(math.MinInt64, 0), number(-1, 9), number(10, 1), number(0, 1), number(1, 10), number(1, -1), number(1, math.MaxInt)} {
		wantMayNot(t, api.ErrDecimal, least(d))
	}
	for _, when := range [][]api.Node{nil, {}, buyer("a"), nots(15, line("b")), or(slices.Repeat([][]api.Node{buyer("a")}, 63)...), and(buyer("a"), or(line("b"), not(amount(api.OpMost, number(5, 0)))))} {
		wantMay(t, exempt(when))
	}
	for _, when := range [][]api.Node{{{}}, or(buyer("a")), or(), not(nil), buyer("tax"), buyer(""), line("A"), nots(16, buyer("a")), or(slices.Repeat([][]api.Node{buyer("a")}, 64)...), or(or(buyer("a"), buyer("b")), buyer("c")), and(and(buyer("a"), buyer("b")), buyer("c")), slices.Concat(buyer("a"), buyer("b")), amount(0, number(1, 0)), amount(5, number(1, 0)), quantity(1, number(-1, 0)), quantity(1, number(10, 1)), {{Kind: api.NodeNot, Kids: math.MaxInt}}, make([]api.Node, 100000)} {
		wantMayNot(t, api.ErrTree, exempt(when))
	}
}

// P14.2: declarations with one, two or three fields changed, against the order
// in which faults are told.
func TestCheckMixed(t *testing.T) {
	t.Parallel()
	x := mixed(142)
	values := others()
	for name, more := range map[string][]any{
		"Kind":     {api.DeclKind(1), api.DeclKind(2), api.DeclKind(3), api.DeclKind(4), api.DeclKind(5), api.DeclKind(6), api.DeclKind(7)},
		"Name":     {"", "tax"},
		"Policy":   {api.Policy(0)},
		"Brackets": {[]api.Bracket{}, percent(101, 0), percent(10, 1), []api.Bracket{{}, {}}},
		"Span":     {api.Span{}},
		"On":       {slices.Repeat([]string{"x"}, 17), []string{}},
		"Instead":  {slices.Repeat([]string{"x"}, 17)},
	} {
		values[name] = append(values[name], more...)
	}
	names := []string{"Kind", "Name", "Digits", "In", "Money", "Policy", "Mode", "On", "Instead", "Class", "Span", "Brackets", "When", "Least"}
	told := map[api.Errno]int{}
	for range 20000 {
		d := x.decl()
		has := strings.Fields(fields()[d.Kind])
		for range x.below(4) {
			name := x.one(names)
			if !x.odds(5) {
				name = has[x.below(len(has))]
			}
			list := values[name]
			reflect.ValueOf(&d).Elem().FieldByName(name).Set(reflect.ValueOf(list[x.below(len(list))]))
		}
		list := []api.Decl{x.decl(), d}
		want := slowCheck(list)
		if fault := syntax.Check(list); fault != want {
			t.Errorf("Check(%v) is %v, not %v", list, fault, want)
		}
		told[want.Err]++
	}
	for _, err := range []api.Errno{api.OK, api.ErrSyntax, api.ErrName, api.ErrLong, api.ErrArg, api.ErrClass, api.ErrSpan, api.ErrSchedule, api.ErrDecimal, api.ErrTree} {
		if told[err] < 20 {
			t.Errorf("the error %d is told %d times only", err, told[err])
		}
	}
}
