package exchange_test

import (
	"runtime"
	"slices"
	"strings"
	"testing"

	"tollbook/api"
	"tollbook/exchange"
)

// R3: what Quotes answers is the caller's, the room behind its end too.
func TestQuotesAreTheCallers(t *testing.T) {
	for _, list := range append(manyShapes(150), example(), nil) {
		x := table(t, list...)
		other, own := x.Quotes(), x.Copy()
		told := x.Quotes()
		told = told[:cap(told)]
		for i := range told {
			told[i] = api.Quote{From: "XXX", To: "YYY", Date: -7, Rate: -1}
		}
		wantTable(t, x, list)
		wantTable(t, own, list)
		if !slices.Equal(other, plain(list).sorted()) {
			t.Error("two answers share memory")
		}
	}
}

// R3: an answer of then stays what it was.
func TestAnswersStay(t *testing.T) {
	x := table(t, example()...)
	quotes := x.Quotes()
	rate, _ := x.Rate("EUR", "USD", 100)
	for _, q := range []api.Quote{quote("EUR", "USD", 100, 9), quote("AAA", "EUR", 1, 2), quote("EUR", "GBP", 0, 4), quote("EUR", "USD", 99, 5)} {
		if e := x.Put(q); e != api.OK {
			t.Fatal(e)
		}
	}
	if !slices.Equal(quotes, plain(example()).sorted()) || ratOf(rate).String() != "5/4" {
		t.Errorf("%v, %v", quotes, ratOf(rate))
	}
}

// R3, R5: the lists that are told of a rate are the caller's.
func TestRatesAreTheCallers(t *testing.T) {
	x := table(t, example()...)
	for range 3 {
		for _, way := range [][2]string{{"EUR", "GBP"}, {"GBP", "EUR"}, {"EUR", "EUR"}, {"USD", "EUR"}} {
			r, _ := x.Rate(way[0], way[1], 199)
			p := r.Plain()
			for _, l := range [][]uint64{p.Num, p.Den, r.Num().Abs().Limbs(), r.Den().Limbs()} {
				l = l[:cap(l)]
				for i := range l {
					l[i] = 77
				}
			}
			wantAsPlain(t, x, example(), way[0], way[1], 199)
		}
	}
}

// R3: of the texts that are handed in nothing is kept: the long ones of which they
// are pieces may go.
func TestTextsAreNotKept(t *testing.T) {
	const long, pieces = 1 << 20, 64
	heap := func() uint64 {
		var m runtime.MemStats
		runtime.GC()
		runtime.ReadMemStats(&m)
		return m.HeapAlloc
	}
	piece := func(s string) string { return strings.Repeat(s, long)[3:6] }
	x := exchange.New()
	before := heap()
	for i := range pieces {
		// Each twice: a key that is there may be put in its own place as well.
		for range 2 {
			if e := x.Put(api.Quote{From: piece(code(i)), To: piece(code(i + 1)), Date: 3, Rate: 2}); e != api.OK {
				t.Fatal(e)
			}
			if _, e := x.Rate(piece(code(i)), piece(code(i+1)), 3); e != api.OK {
				t.Fatal(e)
			}
		}
	}
	if now := heap(); now > before+8*long {
		t.Errorf("%d bytes more", now-before)
	}
	if len(x.Quotes()) != pieces {
		t.Error("quotes")
	}
}

// R6: what two tables answer hangs on what was put to them alone, not on what was
// asked meanwhile, what was refused, or other tables.
func TestTablesByThemselves(t *testing.T) {
	a, b := exchange.New(), exchange.New()
	for _, q := range example() {
		a.Put(q)
		a.Put(api.Quote{From: q.From, To: q.To, Date: q.Date, Rate: -1})
		a.Quotes()
		a.Rate(q.From, q.To, q.Date)
		a.Copy().Put(api.Quote{From: "AAA", To: "BBB", Rate: 1})
		b.Put(q)
	}
	wantTable(t, a, example())
	wantTable(t, b, example())
	wantTable(t, exchange.New(), nil)
}

// R8: calls on unlike tables may be made at one time, on copies of one table too;
// and asking one changes nothing of it.
func TestAtOneTime(t *testing.T) {
	list := manyShapes(600)[3]
	shared := table(t, list...)
	sorted := plain(list).sorted()
	sound := func(x *exchange.Table) bool {
		if !slices.Equal(x.Quotes(), sorted) {
			return false
		}
		for _, q := range list {
			if r, e := x.Rate(q.From, q.To, q.Date); e != api.OK || r.Sign() != 1 {
				return false
			}
		}
		return true
	}
	done := make(chan bool)
	for range 8 {
		go func() {
			own := exchange.New()
			for _, q := range list {
				own.Put(q)
			}
			copied := shared.Copy()
			ok := sound(own) && sound(shared) && sound(copied)
			for _, q := range list {
				q.Rate = 1
				copied.Put(q)
			}
			done <- ok && sound(own) && sound(shared) && !sound(copied)
		}()
	}
	for range 8 {
		if !<-done {
			t.Error("calls at one time disturb each other")
		}
	}
}
