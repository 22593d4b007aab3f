package rules_test

import (
	"slices"
	"strconv"
	"strings"
	"testing"

	"tollbook/api"
	"tollbook/rules"
)

// wantPercent asks for a rate of one bracket; below 0: that there is none.
func wantPercent(t *testing.T, m *rules.Model, tax, class string, d api.Date, percent int64) {
	t.Helper()
	list, ok := m.Rate(tax, class, d)
	if percent < 0 && (ok || len(list) > 0) || percent >= 0 && (!ok || !slices.Equal(list, []api.Bracket{{Percent: api.Dec{Units: percent}}})) {
		t.Errorf("Rate(%s, %s, %d): %v, %v, not %d", tax, class, d, list, ok, percent)
	}
}

// P19.5: the chapter's example.
func TestRateExample(t *testing.T) {
	m := model(t, decls(t, example))
	const day = 738916
	wantPercent(t, m, "vat", "food.bread", day-1, 5)
	wantPercent(t, m, "vat", "food.bread", day, 0)
	wantPercent(t, m, "vat", "food.bread.rye", day, 0)
	wantPercent(t, m, "vat", "food.bread_", day, 5)
	wantPercent(t, m, "vat", "food", day, 5)
	wantPercent(t, m, "vat", "book", day, 20)
	wantPercent(t, m, "vat", "foods", day, 20)
	wantPercent(t, m, "vat", "food.fish", day, 5)
	for _, class := range []string{"Food", "", "food.", ".food", "food..bread", "food.rate", "a.b.c.d.e.f.g.h.i", "food ", strings.Repeat("a.", 1<<19) + "a"} {
		wantPercent(t, m, "vat", class, day, -1)
	}
	for _, tax := range []string{"oz", "", "ny", "EUR", "Vat", "vat."} {
		wantPercent(t, m, tax, "food", day, -1)
	}
	for _, d := range []api.Date{-1, -1 << 63, behind, behind + 1, 1<<63 - 1} {
		wantPercent(t, m, "vat", "food", d, -1)
		wantPercent(t, m, "vat", "food.bread", d, -1)
	}
	wantPercent(t, m, "vat", "food", 0, 5)
	wantPercent(t, m, "vat", "food.bread", api.MaxDate, 0)
	list, ok := m.Rate("city", "x", 0)
	if want := []api.Bracket{{Percent: api.Dec{Units: 1}}, {Above: api.Dec{Units: 100}, Percent: api.Dec{Units: 2}}}; !ok || !slices.Equal(list, want) {
		t.Error(list, ok)
	}
}

// P19.5: of rates that hold that one is told whose class has the most parts, from
// none to as many as there may be; days on which the longer ones do not hold are left
// to the shorter ones.
func TestLongestClass(t *testing.T) {
	const longest = "a.b.c.d.e.f.g.h"
	parts := strings.Split(longest, ".")
	src := start + "rate vat 50%;"
	for n := 1; n <= len(parts); n++ {
		src += "rate vat for " + strings.Join(parts[:n], ".") + during(10*n, 100+n) + " " + strconv.Itoa(n) + "%;"
	}
	p := decls(t, src)
	for _, p := range []plain{p, turned(p)} {
		m := model(t, p)
		wantPercent(t, m, "vat", longest, 9, 50)
		wantPercent(t, m, "vat", longest, 79, 7)
		wantPercent(t, m, "vat", longest, 80, 8)
		wantPercent(t, m, "vat", longest, 107, 8)
		wantPercent(t, m, "vat", longest, 108, 50)
		wantPercent(t, m, "vat", longest+".i", 80, -1)
		wantPercent(t, m, "vat", "a.b.c.x", 80, 3)
		wantPercent(t, m, "vat", "a.b.c.x", 29, 2)
		wantPercent(t, m, "vat", "a.b.c.x", 102, 3)
		wantPercent(t, m, "vat", "a.b.c.x", 103, 50)
		wantPercent(t, m, "vat", "b.a", 80, 50)
		wantPercent(t, m, "vat", "ab", 80, 50)
		for n := 1; n <= len(parts); n++ {
			for d := range api.Date(120) {
				class := strings.Join(parts[:n], ".")
				want, _ := p.rate("vat", class, d)
				wantPercent(t, m, "vat", class, d, want[0].Percent.Units)
			}
		}
	}
}

// P19.5: classes that do not cover one another are apart, and without a rate of the
// empty class there may be none.
func TestApart(t *testing.T) {
	p := decls(t, start+`tax b in w round line up; rate vat for food 1%; rate vat for food.bread.rye 2%; rate vat for foo 3%; rate vat for bread 4%; rate b for rye 5%;`)
	m := model(t, p)
	wantModel(t, m, p)
	for class, percent := range map[string]int64{"food": 1, "food.bread": 1, "food.bread.rye": 2, "food.bread.rye.dark": 2, "food.rye": 1, "foo": 3, "foo.d": 3, "fo": -1, "bread": 4, "bread.food": 4, "rye": -1, "foods": -1, "x.food": -1} {
		wantPercent(t, m, "vat", class, 5, percent)
	}
	wantPercent(t, m, "b", "rye.x", 5, 5)
	wantPercent(t, m, "b", "food", 5, -1)
}

// P19.5: a tax without a rate has none; each of the brackets is told as it stands,
// eight of them too.
func TestBrackets(t *testing.T) {
	p := decls(t, start+`tax b in w round line up; rate b for x 0%, 0.5% above 0.001, 100% above 2, 3% above 3, 4% above 4, 5% above 5, 6% above 6.5, 7% above 99999999;`)
	m := model(t, p)
	wantModel(t, m, p)
	if list, ok := m.Rate("b", "x.y", 7); len(list) != 8 || !ok || list[1] != (api.Bracket{Above: api.Dec{Units: 1, Places: 3}, Percent: api.Dec{Units: 5, Places: 1}}) {
		t.Error(list, ok)
	}
	wantPercent(t, m, "vat", "x", 7, -1)
	wantPercent(t, m, "b", "y", 7, -1)
}

// P19.5, P19.7: rates and leasts day by day: those of spans that touch, with gaps
// between, and without an end.
func TestDayByDay(t *testing.T) {
	p := decls(t, start+"tax b in w round line up;"+
		"rate vat"+during(2, 4)+" 1%; rate vat"+during(4, 5)+" 2%; rate vat"+during(7, 9)+" 3%; rate vat"+during(20, behind)+" 4%;"+
		"rate vat for x"+during(3, 5)+" 5%; rate vat for x"+during(8, 10)+" 6%; rate b"+during(0, 1)+" 7%;"+
		"least vat"+during(0, 3)+" 1; least vat"+during(3, 4)+" 2.5; least vat"+during(9, 12)+" 0; least vat"+during(behind-1, behind)+" 4; least b"+during(5, behind)+" 5;")
	for _, p := range []plain{p, turned(p)} {
		m := model(t, p)
		for d, want := range []int64{-1, -1, 1, 1, 2, -1, -1, 3, 3, -1, -1} {
			wantPercent(t, m, "vat", "y", api.Date(d), want)
		}
		for d, want := range []int64{-1, -1, 1, 5, 5, -1, -1, 3, 6, 6, -1} {
			wantPercent(t, m, "vat", "x", api.Date(d), want)
		}
		for d, want := range []api.Dec{{Units: 1}, {Units: 1}, {Units: 1}, {Units: 25, Places: 1}, {}, {}, {}, {}, {}, {}, {}} {
			if least, ok := m.Least("vat", api.Date(d)); least != want || ok != (d < 4 || d > 8) {
				t.Errorf("%d: %v, %v", d, least, ok)
			}
		}
		wantModel(t, m, p)
	}
}

// P19.7: the chapter's example, and what is no tax and no day.
func TestLeast(t *testing.T) {
	m := model(t, decls(t, example))
	for _, d := range []api.Date{0, 5, api.MaxDate} {
		if least, ok := m.Least("city", d); least != (api.Dec{Units: 1000}) || !ok {
			t.Error(d, least, ok)
		}
	}
	for _, d := range []api.Date{-1, behind, -1 << 63, 1<<63 - 1} {
		if least, ok := m.Least("city", d); least != (api.Dec{}) || ok {
			t.Error(d, least, ok)
		}
	}
	for _, tax := range []string{"vat", "", "oz", "ny", "City", "city.x", "EUR"} {
		if least, ok := m.Least(tax, 5); least != (api.Dec{}) || ok {
			t.Error(tax, least, ok)
		}
	}
}

// P19.5, P19.7: a rate is no least, and an exemption is neither.
func TestKindsApart(t *testing.T) {
	p := decls(t, start+"tax a in w round line up; tax b in w round line up; tax c in w round line up; rate a 1%; least b 2; exempt c;")
	m := model(t, p)
	wantModel(t, m, p)
	for _, tax := range []string{"a", "b", "c"} {
		_, rate := m.Rate(tax, "x", 0)
		_, least := m.Least(tax, 0)
		exempt, err := m.Exempt(tax, "x", 0, api.Facts{})
		if rate != (tax == "a") || least != (tax == "b") || exempt != (tax == "c") || err != api.OK {
			t.Error(tax, rate, least, exempt, err)
		}
	}
}
