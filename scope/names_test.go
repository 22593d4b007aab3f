package scope_test

import (
	"strings"
	"testing"

	"tollbook/api"
)

// P20.2: the chapter's examples 1 and 2.
func TestNamesExamples(t *testing.T) {
	b := textBook(t, example)
	enough := sale("ny", "USD", 100000)
	b.wantNames(t, ask("ny", "food"), "vat")
	b.wantNames(t, ask("ny", "food", enough), "vat city")
	b.wantNames(t, ask("ny", "food", sale("ny", "EUR", 900000), sale("ny", "USD", 99999), sale("us", "USD", 900000)), "vat")
	poor := ask("ny", "food")
	poor.Buyer = []string{"poor"}
	b.wantNames(t, poor, "")
	poor.Sales = []api.Sale{enough}
	b.wantNames(t, poor, "city")
	for _, sales := range [][]api.Sale{nil, {enough}} {
		b.wantNames(t, ask("us", "food", sales...), "vat")
		b.wantNames(t, ask("world", "food", sales...), "vat")
		b.wantNames(t, ask("oz", "food", sales...), "sun")
		b.wantNames(t, ask("us", "gold", sales...), "duty")
		b.wantNames(t, ask("world", "gold", sales...), "vat")
	}
	b.wantNames(t, ask("ny", "gold", enough), "duty city")
}

// P20.2: the document's example 2 and 3.
func TestDocumentExamples(t *testing.T) {
	b := textBook(t, document)
	q := ask("berlin", "food.bread")
	q.Date = 738671 // 2023-06-01
	if day(q.Date) != "2023-06-01" {
		t.Fatal(day(q.Date))
	}
	b.wantNames(t, q, "vat")
	q.Buyer = []string{"school"}
	b.wantNames(t, q, "")
	q.Buyer, q.Sales = nil, []api.Sale{sale("berlin", "EUR", 100000)}
	b.wantNames(t, q, "vat city")
	q.Sales[0].Units--
	b.wantNames(t, q, "vat")
	q.Class = "wine"
	b.wantNames(t, q, "duty vat")
	q.Date = 0
	b.wantNames(t, q, "duty")
}

// P20.2: a tax's place is the question's, or over it; not beside it, nor below it,
// nor in another tree.
func TestPlaces(t *testing.T) {
	src := start
	for _, place := range []string{"w", "a", "b", "c", "o", "p"} {
		src += "tax x" + place + " in " + place + " round line up; rate x" + place + " 5%;"
	}
	b := textBook(t, src)
	for place, want := range map[string]string{"w": "xw", "a": "xa xw", "b": "xa xb xw", "c": "xc xw", "o": "xo", "p": "xo xp"} {
		b.wantNames(t, ask(place, "x"), want)
	}
	b = textBook(t, start)
	b.wantNames(t, ask("b", "x"), "")
}

// P20.2: a tax needs a rate for the class on the day: one that covers the class, from
// its first day on, up to the one ahead of its end.
func TestRates(t *testing.T) {
	b := textBook(t, start+`tax t in w round line up; rate t for food`+during(3, 5)+` 1%; rate t for food.bread`+during(4, 7)+` 2%;
		rate t for food.bread.rye`+during(6, 9)+` 0%; tax u in w round line up; rate u`+during(8, behind)+` 3%; tax none in w round line up;`)
	for class, days := range map[string][2]api.Date{"food": {3, 5}, "food.fish": {3, 5}, "food.bread": {3, 7}, "food.bread.rye": {3, 9}, "food.bread.rye.x": {3, 9}, "foo": {0, 0}, "foods": {0, 0}, "bread": {0, 0}, "x.food": {0, 0}} {
		for d := range api.Date(12) {
			q, want := ask("b", class), ""
			q.Date = d
			if days[0] <= d && d < days[1] {
				want = "t"
			}
			if d >= 8 {
				want = strings.TrimSpace(want + " u")
			}
			b.wantNames(t, q, want)
		}
		for _, d := range []api.Date{api.MaxDate - 1, api.MaxDate} {
			q := ask("b", class)
			q.Date = d
			b.wantNames(t, q, "u")
		}
	}
}

// P20.2: one exemption is enough, of its class, on its days, of the buyer's traits and
// the line's, of the amount in the question's currency, of the quantity.
func TestExemptions(t *testing.T) {
	b := textBook(t, start+`tax t in w round line up; rate t 5%; exempt t for food`+during(3, 5)+` when buyer poor; exempt t for food.bread when line old;
		exempt t for gold when amount >= 12.5; exempt t for tin when quantity > 7; exempt t for lead`+during(4, 6)+`; tax u in w round line up; exempt u; rate u 5%;`)
	for d := range api.Date(8) {
		for _, class := range []string{"food", "food.bread", "lead", "tin", "foods"} {
			for _, buyer := range [][]string{nil, {"poor"}, {"a", "poor", "z"}, {"old"}} {
				for _, line := range [][]string{nil, {"old"}, {"poor"}} {
					q, want := ask("b", class), "t"
					q.Date, q.Buyer, q.Traits = d, buyer, line
					isPoor := 3 <= d && d < 5 && len(buyer) > 0 && buyer[0] != "old" && (class == "food" || class == "food.bread")
					isOld := class == "food.bread" && len(line) > 0 && line[0] == "old"
					if isPoor || isOld || class == "lead" && 4 <= d && d < 6 {
						want = ""
					}
					b.wantNames(t, q, want)
				}
			}
		}
	}
	for _, c := range []struct {
		code   string
		amount int64
		want   string
	}{{"EUR", 1249, "t"}, {"EUR", 1250, ""}, {"JPY", 12, "t"}, {"JPY", 13, ""}, {"XAU", 124999, "t"}, {"XAU", 125000, ""}, {"EUR", 0, "t"}, {"EUR", 1<<63 - 1, ""}} {
		q := ask("b", "gold")
		q.Currency, q.Amount = c.code, c.amount
		b.wantNames(t, q, c.want)
	}
	for quantity, want := range map[int64]string{1: "t", 7: "t", 8: "", 1000000: ""} {
		q := ask("b", "tin")
		q.Quantity = quantity
		b.wantNames(t, q, want)
	}
}

// P20.2: a least counts what was sold in the tax's own place, in that place's money,
// in major units of it; on its days alone.
func TestLeasts(t *testing.T) {
	b := textBook(t, start+`tax t in a round line up; rate t 5%; least t 1000; tax u in b round line up; rate u 5%; least u 10.5;
		tax y in o round line up; rate y 5%; least y 7.5; tax z in p round line up; rate z 5%; least z 0.00015;`)
	for _, c := range []struct {
		place string
		sales []api.Sale
		want  string
	}{
		{"b", nil, ""},
		{"b", []api.Sale{sale("a", "EUR", 99999)}, ""},
		{"b", []api.Sale{sale("a", "EUR", 100000)}, "t"},
		{"a", []api.Sale{sale("a", "EUR", 100000)}, "t"},
		{"c", []api.Sale{sale("a", "EUR", 100000)}, ""},
		{"b", []api.Sale{sale("a", "USD", 1<<63-1), sale("b", "EUR", 1<<63-1), sale("w", "EUR", 1<<63-1)}, ""},
		{"b", []api.Sale{sale("A", "EUR", 1<<63-1), sale("a", "EU", 1<<63-1), sale("a", "EURO", 1<<63-1), sale("a ", "EUR", 1<<63-1), sale("aEUR", "", 1<<63-1)}, ""},
		{"b", []api.Sale{sale("", "", 1<<63-1), sale("b", "", 1<<63-1), sale("b", "USD", 1050), sale("c", "USD", 1<<63-1)}, "u"},
		{"b", []api.Sale{sale("b", "USD", 1049)}, ""},
		{"b", []api.Sale{sale("a", "EUR", 1<<63-1), sale("b", "USD", 1<<63-1)}, "t u"},
		{"b", []api.Sale{sale("a", "EUR", -1<<63), sale("b", "USD", 1050)}, "u"},
		{"p", []api.Sale{sale("o", "JPY", 7), sale("p", "XAU", 1)}, ""},
		{"p", []api.Sale{sale("o", "JPY", 8), sale("p", "XAU", 2)}, "y z"},
		{"p", []api.Sale{sale("o", "JPY", 8), sale("p", "JPY", 2)}, "y"},
	} {
		b.wantNames(t, ask(c.place, "x", c.sales...), c.want)
	}
	b = textBook(t, start+`tax t in a round line up; rate t 5%; least t`+during(3, 5)+` 10; least t`+during(7, 9)+` 20; least t`+during(9, 10)+` 0;`)
	for units, want := range map[int64]string{-1: "yyynnyynnny", 0: "yyynnyynnyy", 999: "yyynnyynnyy", 1000: "yyyyyyynnyy", 1999: "yyyyyyynnyy", 2000: "yyyyyyyyyyy"} {
		for d, yes := range want {
			q, names := ask("b", "x", sale("a", "EUR", units)), ""
			q.Date = api.Date(d)
			if yes == 'y' {
				names = "t"
			}
			b.wantNames(t, q, names)
		}
	}
}

// P20.2: a least beyond what can be sold, and one of the finest.
func TestGreatLeasts(t *testing.T) {
	b := textBook(t, start+`tax t in o round line up; rate t 5%; least t 9223372036854775807; tax u in p round line up; rate u 5%; least u 922337203685477.5807;
		tax v in p round line up; rate v 5%; least v 92233720368547758.07;`)
	b.wantNames(t, ask("p", "x", sale("o", "JPY", 1<<63-1), sale("p", "XAU", 1<<63-1)), "t u")
	b.wantNames(t, ask("p", "x", sale("o", "JPY", 1<<63-2), sale("p", "XAU", 1<<63-2)), "")
}

// short is a book whose taxes are told by name, place and what is behind that, each with
// a rate for all; exemptions and leasts stand as they are.
func short(src string) string {
	text := start
	for item := range strings.SplitSeq(src, ";") {
		words := strings.Fields(item)
		if words[0] == "exempt" || words[0] == "least" {
			text += item + ";"
			continue
		}
		text += "tax " + words[0] + " in " + words[1] + " round line up " + strings.Join(words[2:], " ") + "; rate " + words[0] + " 5%;"
	}
	return text
}

// P20.2: a candidate that is named in a candidate's Instead does not apply: also where
// the shadow is shadowed itself, where two shadow one another, and round a ring; what
// is no candidate shadows nothing.
func TestShadows(t *testing.T) {
	for _, c := range []struct{ src, want string }{
		{"t w instead u; u w", "t"},
		{"t w; u w instead t", "u"},
		{"t w instead u; u w instead v; v w", "t"},
		{"v w instead u; u w instead t; t w", "v"},
		{"t w instead u; u w instead t", ""},
		{"t w instead u; u w instead t; v w", "v"},
		{"t w instead u; u w instead v; v w instead t", ""},
		{"t w instead u; u w instead v; v w instead t; y w instead v", "y"},
		{"t w instead u, v; u w; v w; y w", "t y"},
		{"t w instead v; u w instead v; v w; y w", "t u y"},
		{"t w instead u, v, y; u w instead t, v, y; v w instead y; y w", ""},
		{"t w instead u; u a; v b instead t", "v"},
		{"t w on u instead u; u w", "t"},
		{"t w on u, v; u w; v w instead u", "v t"},
		{"t c instead u; u w; v o instead u; y b", "u y"},
		{"t c instead u; u w instead v; v w instead y; y w", "u"},
		{"t w instead u; u w; exempt t for x", "u"},
		{"t w instead u; u w; exempt u for x", "t"},
		{"t w instead u; u w; least t 1", "u"},
		{"t w instead u; u w instead v; v w; least t 1", "u"},
		{"t w instead u; u w instead v; v w; exempt u for x", "t v"},
		{"t w instead u; u w instead t; exempt t for x.y; exempt t when quantity < 2", "u"},
		{"t w instead u; u w instead t; exempt t for x.y; exempt t when quantity < 1", ""},
		{"t w instead u, v; u w instead v; v w; y c instead t", "t"},
	} {
		textBook(t, short(c.src)).wantNames(t, ask("b", "x"), c.want)
	}
	// One without a rate for the class shadows nothing either.
	b := textBook(t, start+"tax t in w round line up instead u; tax u in w round line up; rate t for food"+during(3, 5)+" 5%; rate u 5%;")
	for d, want := range []string{"u", "u", "u", "t", "t", "u", "u"} {
		q := ask("b", "food")
		q.Date = api.Date(d)
		b.wantNames(t, q, want)
		q.Class = "x"
		b.wantNames(t, q, "u")
	}
}

// P20.2: the order is the model's, whatever applies: behind what a tax stands on, else
// by the names.
func TestOrder(t *testing.T) {
	for _, c := range []struct{ src, want string }{
		{"t w; u w; v w", "t u v"},
		{"v a; u w; t b", "t u v"},
		{"t w on v; u w; v w", "u v t"},
		{"t w on u; u w on v; v w", "v u t"},
		{"t w on u; u w on v; v w; exempt u", "v t"},
		{"t w on u; u w on v; v c", "u t"},
		{"t w on u, y; u w; v w on t; y w on u", "u y t v"},
	} {
		textBook(t, short(c.src)).wantNames(t, ask("b", "x"), c.want)
	}
}
