package scope_test

import (
	"strconv"
	"strings"
	"testing"

	"tollbook/api"
	"tollbook/scope"
)

// taxesOf are so many taxes in a place, each with that rate.
func taxesOf(n int, place, rate string) string {
	text := ""
	for i := range n {
		name := "t" + strconv.Itoa(1000+i)
		text += "tax " + name + " in " + place + " round line up; rate " + name + " " + rate + ";"
	}
	return text
}

// rateOf has so many brackets.
func rateOf(n int) string {
	text := "1%"
	for i := 1; i < n; i++ {
		text += ", " + strconv.Itoa(i+1) + "% above " + strconv.Itoa(10*i)
	}
	return text
}

// wantMany asks for so many taxes, or for ErrLong, where that is too many.
func wantMany(t *testing.T, src string, want int, err api.Errno) {
	t.Helper()
	b := bookOf(t, decls(t, start+src), nil)
	q := ask("a", "x")
	b.want(t, q)
	names, e := scope.Names(b.model, q)
	if len(names) != want || e != err {
		t.Errorf("%.900s: %d taxes, error %d", src, len(names), e)
	}
	list, e := scope.Resolve(b.model, b.table, q)
	if len(list) != want || e != err {
		t.Errorf("%.900s: %d taxes, error %d", src, len(list), e)
	}
}

// P20.1: 8 taxes that apply are told, 9 are too many; those that do not apply are not
// counted.
func TestManyTaxes(t *testing.T) {
	for n := range 8 {
		wantMany(t, taxesOf(n+1, "a", "5%"), n+1, api.OK)
	}
	wantMany(t, taxesOf(9, "a", "5%"), 0, api.ErrLong)
	wantMany(t, taxesOf(900, "a", "5%"), 0, api.ErrLong)
	for _, more := range []string{
		"tax u in w round line up;",
		"tax u in b round line up; rate u 5%;",
		"tax u in c round line up; rate u 5%;",
		"tax u in w round line up; rate u for food 5%;",
		"tax u in w round line up; rate u" + during(6, behind) + " 5%;",
		"tax u in w round line up; rate u 5%; exempt u;",
		"tax u in w round line up; rate u 5%; least u 1;",
	} {
		wantMany(t, taxesOf(8, "a", "5%")+more, 8, api.OK)
	}
	// One that shadows one of 8, and one of 9.
	wantMany(t, taxesOf(8, "a", "5%")+"tax u in w round line up instead t1003; rate u 5%;", 8, api.OK)
	wantMany(t, taxesOf(9, "a", "5%")+"tax u in w round line up instead t1003; rate u 5%;", 0, api.ErrLong)
	wantMany(t, taxesOf(9, "a", "5%")+"tax u in w round line up instead t1003, t1008; rate u 5%;", 8, api.OK)
}

// P20.1: 24 brackets together are told, 25 are too many; those of what does not apply
// are not counted, nor those of rates for other classes and days.
func TestManyBrackets(t *testing.T) {
	three := taxesOf(2, "a", rateOf(8))
	one := func(n int) string { return "tax u in a round line up; rate u " + rateOf(n) + ";" }
	wantMany(t, three+one(7), 3, api.OK)
	wantMany(t, three+one(8), 3, api.OK)
	wantMany(t, three+one(8)+"tax v in a round line up; rate v 1%;", 0, api.ErrLong)
	wantMany(t, three+one(7)+"tax v in a round line up; rate v 1%;", 4, api.OK)
	wantMany(t, taxesOf(8, "a", rateOf(3)), 8, api.OK)
	wantMany(t, taxesOf(7, "a", rateOf(3))+one(3), 8, api.OK)
	wantMany(t, taxesOf(7, "a", rateOf(3))+one(4), 0, api.ErrLong)
	wantMany(t, taxesOf(8, "a", rateOf(4)), 0, api.ErrLong)
	for _, more := range []string{
		"tax v in b round line up; rate v " + rateOf(8) + ";",
		"tax v in w round line up; rate v for food " + rateOf(8) + ";",
		"tax v in w round line up; rate v " + rateOf(8) + "; exempt v;",
		"tax v in w round line up; rate v " + rateOf(8) + "; least v 1;",
		"rate u for food " + rateOf(8) + "; rate u for y " + rateOf(8) + ";",
	} {
		wantMany(t, three+one(8)+more, 3, api.OK)
	}
	wantMany(t, three+one(8)+"tax v in w round line up instead u; rate v "+rateOf(8)+";", 3, api.OK)
	wantMany(t, three+one(8)+"tax v in w round line up instead u; rate v "+rateOf(8)+"; rate u for x 1%;", 3, api.OK)
	wantMany(t, three+one(8)+"rate u for x 1%; tax v in w round line up; rate v "+rateOf(7)+";", 4, api.OK)
	wantMany(t, three+one(8)+"rate u for x 1%, 2% above 5; tax v in w round line up; rate v "+rateOf(7)+";", 0, api.ErrLong)
}

// P20.2: as deep a tree, as many taxes as a book may have: of all over a place those
// that apply are found.
func TestDeepPlaces(t *testing.T) {
	const n = 650
	src := "currency EUR 2; currency USD 2; place p1000 money EUR;"
	for i := 1001; i < 1000+n; i++ {
		src += "place p" + strconv.Itoa(i) + " in p" + strconv.Itoa(i-1) + ";"
	}
	for i := 1000; i < 1000+n; i++ {
		at := strconv.Itoa(i)
		src += "tax t" + at + " in p" + at + " round line up; rate t" + at + " for x" + strconv.Itoa(i/8) + " 1%;"
	}
	p := decls(t, src)
	b := bookOf(t, p, nil)
	for _, c := range []struct {
		place, class, want string
	}{
		{"p1649", "x125", "t1000 t1001 t1002 t1003 t1004 t1005 t1006 t1007"},
		{"p1003", "x125.y", "t1000 t1001 t1002 t1003"},
		{"p1649", "x206", "t1648 t1649"},
		{"p1648", "x206", "t1648"},
		{"p1647", "x206", ""},
	} {
		q := ask(c.place, c.class)
		if names, e := scope.Names(b.model, q); strings.Join(names, " ") != c.want || e != api.OK {
			t.Errorf("%v: %v, %d", q, names, e)
		}
	}
}

// P20.2: as many sales as one likes, of places and moneys of any kind.
func TestManySales(t *testing.T) {
	b := textBook(t, start+"tax t in a round line up; rate t 5%; least t 1000;")
	const n = 100000
	var sales []api.Sale
	for i := range n {
		sales = append(sales, sale("a"+strconv.Itoa(n+i), "EUR", 1<<62))
	}
	for _, own := range []int64{99999, 100000} {
		for _, all := range [][]api.Sale{
			append([]api.Sale{sale("a", "EUR", own)}, sales...),
			append([]api.Sale{sale("a", "E", 1<<62), sale("a", "EUR", own), sale("a", "USD", 1<<62)}, sales...),
		} {
			names, e := scope.Names(b.model, ask("b", "x", all...))
			if len(names) != int(own-99999) || e != api.OK {
				t.Errorf("%d: %v, %d", own, names, e)
			}
		}
	}
	all := append(sales, sales[len(sales)-1])
	b.wantErr(t, ask("b", "x", all...), api.ErrArg)
	if names, e := scope.Names(b.model, ask("b", "x", sales...)); len(names) != 0 || e != api.OK {
		t.Error(names, e)
	}
}
