package rules_test

import (
	"slices"
	"strings"
	"testing"

	"tollbook/api"
	"tollbook/rules"
)

// wantFree asks whether a line is exempt.
func wantFree(t *testing.T, m *rules.Model, tax, class string, d api.Date, f api.Facts, want bool) {
	t.Helper()
	if yes, err := m.Exempt(tax, class, d, f); yes != want || err != api.OK {
		t.Errorf("Exempt(%s, %s, %d, %v): %v, %d", tax, class, d, f, yes, err)
	}
}

// wantNotAsked asks for an error.
func wantNotAsked(t *testing.T, m *rules.Model, tax, class string, d api.Date, f api.Facts, want api.Errno) {
	t.Helper()
	if yes, err := m.Exempt(tax, class, d, f); yes || err != want {
		t.Errorf("Exempt(%.20s, %.20s, %d, ..): %v, %d, not %d", tax, class, d, yes, err, want)
	}
}

// P19.6: the chapter's example.
func TestExemptExample(t *testing.T) {
	m := model(t, decls(t, example))
	poor := api.Facts{Buyer: []string{"poor"}}
	wantFree(t, m, "vat", "food.bread", 0, poor, true)
	wantFree(t, m, "vat", "food", api.MaxDate, poor, true)
	wantFree(t, m, "vat", "food.bread", 0, api.Facts{}, false)
	wantFree(t, m, "vat", "food.bread", 0, api.Facts{Line: []string{"poor"}}, false)
	wantFree(t, m, "vat", "book", 0, poor, false)
	wantFree(t, m, "vat", "foods", 0, poor, false)
	wantFree(t, m, "city", "food", 0, poor, false)
	wantNotAsked(t, m, "oz", "food", 0, poor, api.ErrName)
	wantNotAsked(t, m, "vat", "", 0, poor, api.ErrClass)
	wantNotAsked(t, m, "vat", "food", -1, poor, api.ErrDate)
	wantNotAsked(t, m, "vat", "food", 0, api.Facts{Digits: 5}, api.ErrTrait)
}

// P19.6: each error, and of several at once the first one; also of a tax that is
// exempt for all, and of one that never is.
func TestExemptErrors(t *testing.T) {
	p := decls(t, start+"tax free in w round line up; exempt free; place oz in w;")
	m := model(t, p)
	names := []string{"vat", "free", "oz", "", "Vat", "EUR", "w", strings.Repeat("v", 1<<20)}
	classes := []string{"food", "a.b.c.d.e.f.g.h", "", ".", "Food", "food.", "a.b.c.d.e.f.g.h.i", "rate", strings.Repeat("a", 25), strings.Repeat("a.", 1<<20)}
	days := []api.Date{0, api.MaxDate, -1, behind, -1 << 63, 1<<63 - 1}
	facts := []api.Facts{
		{},
		{Buyer: manyTraits(16), Line: manyTraits(16), Amount: 1<<63 - 1, Digits: 4, Quantity: 1<<63 - 1},
		{Buyer: manyTraits(17)}, {Line: manyTraits(17)}, {Buyer: []string{"b", "a"}}, {Line: []string{"a", "a"}}, {Line: []string{"A"}}, {Buyer: []string{""}},
		{Digits: -1}, {Digits: 5}, {Amount: -1}, {Quantity: -1},
	}
	for i, tax := range names {
		for j, class := range classes {
			for k, d := range days {
				for l, f := range facts {
					switch {
					case i > 1:
						wantNotAsked(t, m, tax, class, d, f, api.ErrName)
					case j > 1:
						wantNotAsked(t, m, tax, class, d, f, api.ErrClass)
					case k > 1:
						wantNotAsked(t, m, tax, class, d, f, api.ErrDate)
					case l > 1:
						wantNotAsked(t, m, tax, class, d, f, api.ErrTrait)
					default:
						wantFree(t, m, tax, class, d, f, tax == "free")
					}
				}
			}
		}
	}
}

// manyTraits are so many, rising.
func manyTraits(n int) []string {
	var list []string
	for i := range n {
		list = append(list, string(rune('a'+i)))
	}
	return list
}

// P19.6: one of several exemptions is enough, each with its own days, class and
// condition: all three have to hold of the same one.
func TestOneOfSeveral(t *testing.T) {
	p := decls(t, start+"exempt vat for a"+during(3, 5)+" when buyer x; exempt vat for a.b"+during(4, 9)+" when buyer y; exempt vat"+during(20, behind)+"; exempt vat for c when line z or amount >= 12.5; exempt vat for c when quantity > 7;")
	x, y, z := api.Facts{Buyer: []string{"x"}}, api.Facts{Buyer: []string{"y"}}, api.Facts{Line: []string{"z"}}
	for _, p := range []plain{p, turned(p)} {
		m := model(t, p)
		for d := range api.Date(25) {
			wantFree(t, m, "vat", "a", d, x, 3 <= d && d < 5 || d >= 20)
			wantFree(t, m, "vat", "a", d, y, d >= 20)
			wantFree(t, m, "vat", "a.b", d, x, 3 <= d && d < 5 || d >= 20)
			wantFree(t, m, "vat", "a.b", d, y, 4 <= d && d < 9 || d >= 20)
			wantFree(t, m, "vat", "a.b.c", d, y, 4 <= d && d < 9 || d >= 20)
			wantFree(t, m, "vat", "a.c", d, y, d >= 20)
			wantFree(t, m, "vat", "ab", d, x, d >= 20)
			wantFree(t, m, "vat", "c.d", d, z, true)
			wantFree(t, m, "vat", "c", d, x, d >= 20)
			wantFree(t, m, "vat", "c", d, api.Facts{Amount: 1250, Digits: 2}, true)
			wantFree(t, m, "vat", "c", d, api.Facts{Amount: 1249, Digits: 2}, d >= 20)
			wantFree(t, m, "vat", "c", d, api.Facts{Amount: 1250, Digits: 3}, d >= 20)
			wantFree(t, m, "vat", "c", d, api.Facts{Quantity: 8}, true)
			wantFree(t, m, "vat", "c", d, api.Facts{Quantity: 7}, d >= 20)
		}
		wantModel(t, m, p)
	}
}

// P19.6: exemptions of one tax are not those of another one, nor of its rates or
// leasts; the empty class covers all.
func TestExemptOfOthers(t *testing.T) {
	p := decls(t, start+"tax b in w round line up on vat; tax c in w round line up instead b; exempt b; rate vat 5%; exempt c for x"+during(0, 1)+"; least c 7;")
	m := model(t, p)
	wantModel(t, m, p)
	for _, class := range []string{"x", "y.z", "a.b.c.d.e.f.g.h"} {
		wantFree(t, m, "vat", class, 0, api.Facts{}, false)
		wantFree(t, m, "b", class, api.MaxDate, api.Facts{}, true)
		wantFree(t, m, "c", class, 0, api.Facts{}, class == "x")
		wantFree(t, m, "c", class, 1, api.Facts{}, false)
	}
}

// R3: the facts that are asked for stay as they were, behind their ends too.
func TestFactsStay(t *testing.T) {
	m := model(t, decls(t, example))
	buyer, line := append(manyTraits(5), "poor", "zoo"), append(manyTraits(3), "zoo")
	f := api.Facts{Buyer: buyer[:6], Line: line[:3], Amount: 5, Quantity: 3}
	for range 3 {
		wantFree(t, m, "vat", "food", 5, f, true)
	}
	if !slices.Equal(buyer, append(manyTraits(5), "poor", "zoo")) || !slices.Equal(line, append(manyTraits(3), "zoo")) {
		t.Error("what was handed in has changed")
	}
}
