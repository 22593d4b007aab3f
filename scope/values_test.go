package scope_test

import (
	"reflect"
	"runtime"
	"slices"
	"strings"
	"testing"

	"tollbook/api"
	"tollbook/exchange"
	"tollbook/rules"
	"tollbook/scope"
	"tollbook/syntax"
)

// fullBook has taxes that stand on others, bounds there and back, a least, exemptions,
// a shadow.
func fullBook(t *testing.T) book {
	t.Helper()
	return textBook(t, start+`tax t in w round line up; tax u in a round invoice even on t; tax v in b round line down on t, u; tax y in b round line up instead z; tax z in w round line up;
		rate t 1%, 2% above 3; rate u 5%; rate v 0%, 10% above 100, 20% above 1000.5; rate y for food 1%; rate z 5%; exempt t when buyer poor and not line old; least u 10; least v 5;`)
}

func fullAsk() api.Ask {
	q := ask("b", "food.bread", sale("a", "EUR", 1000), sale("b", "USD", 500), sale("c", "EUR", 3))
	q.Buyer, q.Traits = []string{"poor", "school"}, []string{"new", "old"}
	return q
}

// fill writes over all of a list, the room behind its end too.
func fill[T any](list []T, with T) {
	list = list[:cap(list)]
	for i := range list {
		list[i] = with
	}
}

// spoil writes over all that is reached from an answer.
func spoil(list []api.Applied) {
	for _, a := range list {
		for _, p := range a.Pieces[:cap(a.Pieces)] {
			for _, limbs := range [][]uint64{p.Above.Num, p.Above.Den, p.Rate.Num, p.Rate.Den} {
				fill(limbs, 99)
			}
		}
		fill(a.On, -7)
		fill(a.Pieces, api.Piece{Above: api.Ratio{Neg: true}})
	}
	fill(list, api.Applied{Tax: "spoilt"})
}

// R3: a question is only read, the room behind the ends of its lists too; nor is it
// kept.
func TestAskStays(t *testing.T) {
	b := fullBook(t)
	rights := append([]change{func(q *api.Ask) {}, func(q *api.Ask) { q.Currency = "JPY"; q.Date = 0 }}, rights()...)
	for _, turn := range append(rights, wrongs()[4].list...) {
		q := fullAsk()
		turn(&q)
		q.Buyer = append(slices.Clone(q.Buyer), "b", "a")[:len(q.Buyer)]
		q.Traits = append(slices.Clone(q.Traits), "b", "a")[:len(q.Traits)]
		q.Sales = append(slices.Clone(q.Sales), sale("w", "EUR", 5), sale("a", "EUR", 5))[:len(q.Sales)]
		room := func() (l []any) {
			return append(l, slices.Clone(q.Buyer[:cap(q.Buyer)]), slices.Clone(q.Traits[:cap(q.Traits)]), slices.Clone(q.Sales[:cap(q.Sales)]))
		}
		was := room()
		want, wantErr := b.plain.resolve(b.quotes, q)
		list, e := scope.Resolve(b.model, b.table, q)
		names, _ := scope.Names(b.model, q)
		if !reflect.DeepEqual(room(), was) {
			t.Fatal("what was handed in has changed")
		}
		fill(q.Buyer, "spoilt")
		fill(q.Traits, "spoilt")
		fill(q.Sales, api.Sale{Place: "spoilt"})
		if !isSame(list, want) || e != wantErr || e == api.OK && strings.Join(names, " ") != namesIn(want) {
			t.Fatal("what was handed in is kept")
		}
	}
}

// R3, R4: a model and a table are only read.
func TestObjectsStay(t *testing.T) {
	b := fullBook(t)
	canon, all := b.model.Canon(), b.table.Quotes()
	for _, turn := range rights() {
		q := fullAsk()
		turn(&q)
		list, _ := scope.Resolve(b.model, b.table, q)
		spoil(list)
		names, _ := scope.Names(b.model, q)
		fill(names, "spoilt")
	}
	if !syntax.Same(b.model.Canon(), canon) || !slices.Equal(b.table.Quotes(), all) {
		t.Error("a model or a table has changed")
	}
	b.want(t, fullAsk())
}

// R3, R6: what is answered is the caller's, the room behind the ends too: no later
// answer shows what is written there, nor does one given ahead of it.
func TestAnswersAreTheCallers(t *testing.T) {
	b := fullBook(t)
	q := fullAsk()
	want, _ := b.plain.resolve(b.quotes, q)
	for range 3 {
		one, _ := scope.Resolve(b.model, b.table, q)
		two, _ := scope.Resolve(b.model, b.table, q)
		names, _ := scope.Names(b.model, q)
		others, _ := scope.Names(b.model, q)
		spoil(two)
		fill(others, "spoilt")
		if !isSame(one, want) || strings.Join(names, " ") != namesIn(want) {
			t.Fatal("two answers share memory")
		}
	}
	if namesIn(want) != "t u v y" || len(want[2].On) != 2 || len(want[2].Pieces) != 3 {
		t.Error(want)
	}
}

// R3: no two lists of one answer share memory, behind their ends either.
func TestListsShareNothing(t *testing.T) {
	b := fullBook(t)
	list, _ := scope.Resolve(b.model, b.table, fullAsk())
	var marks []func(set bool) bool
	for i, a := range list {
		marks = append(marks, marking(a.On, -1-i))
		for _, p := range a.Pieces {
			for _, limbs := range [][]uint64{p.Above.Num, p.Above.Den, p.Rate.Num, p.Rate.Den} {
				marks = append(marks, marking(limbs, uint64(len(marks))))
			}
		}
		marks = append(marks, marking(a.Pieces, api.Piece{Above: api.Ratio{Neg: i%2 == 0, Num: []uint64{uint64(i)}}}))
	}
	for _, mark := range marks {
		mark(true)
	}
	for _, mark := range marks {
		if !mark(false) {
			t.Fatal("two lists share memory")
		}
	}
}

// marking sets a list to something of its own, or tells whether it is so still.
func marking[T any](list []T, own T) func(set bool) bool {
	list = list[:cap(list)]
	return func(set bool) bool {
		if set {
			fill(list, own)
		}
		return !slices.ContainsFunc(list, func(has T) bool { return !reflect.DeepEqual(has, own) })
	}
}

// R3: of the texts that are handed in nothing is kept in an answer: the long ones of
// which they are pieces may go.
func TestTextsAreNotKept(t *testing.T) {
	const long = 1 << 20
	heap := func() uint64 {
		var m runtime.MemStats
		runtime.GC()
		runtime.ReadMemStats(&m)
		return m.HeapAlloc
	}
	piece := func(s string) string { return (strings.Repeat("x", long) + s)[long:] }
	b := fullBook(t)
	before := heap()
	var lists [][]api.Applied
	var names [][]string
	for range 4 {
		q := fullAsk()
		for _, text := range []*string{&q.Place, &q.Class, &q.Currency, &q.Buyer[0], &q.Traits[0], &q.Sales[0].Place, &q.Sales[1].Money} {
			*text = piece(*text)
		}
		list, e := scope.Resolve(b.model, b.table, q)
		l, f := scope.Names(b.model, q)
		if e != api.OK || f != api.OK {
			t.Fatal(e, f)
		}
		lists, names = append(lists, list), append(names, l)
	}
	if now := heap(); now > before+long/2 {
		t.Errorf("%d bytes more", now-before)
	}
	runtime.KeepAlive(lists)
	runtime.KeepAlive(names)
	runtime.KeepAlive(b)
}

// R6: what is answered hangs on the model, the table and the question alone, not on
// what was asked meanwhile.
func TestByThemselves(t *testing.T) {
	a, b := fullBook(t), textBook(t, example)
	for range 3 {
		a.want(t, fullAsk())
		b.want(t, ask("ny", "gold", sale("ny", "USD", 1<<40)))
		scope.Resolve(nil, nil, fullAsk())
		scope.Names(&rules.Model{}, fullAsk())
		scope.Resolve(a.model, &exchange.Table{}, fullAsk())
		scope.Resolve(b.model, a.table, fullAsk())
	}
	// A quote that is put later is seen, and none of another table.
	a.table.Put(api.Quote{From: "EUR", To: "USD", Date: 5, Rate: 0.5})
	a.quotes = append(a.quotes, api.Quote{From: "EUR", To: "USD", Date: 5, Rate: 0.5})
	a.want(t, fullAsk())
	b.want(t, ask("ny", "food", sale("ny", "USD", 1<<40)))
}

// R8: calls on unlike objects may be made at one time.
func TestAtOneTime(t *testing.T) {
	p := fullBook(t)
	q := fullAsk()
	want, _ := p.plain.resolve(p.quotes, q)
	done := make(chan bool)
	for range 8 {
		own := fullBook(t)
		go func() {
			ok := true
			for range 20 {
				list, e := scope.Resolve(own.model, own.table, q)
				names, f := scope.Names(own.model, q)
				ok = ok && isSame(list, want) && e == api.OK && f == api.OK && strings.Join(names, " ") == namesIn(want)
				spoil(list)
				fill(names, "spoilt")
			}
			done <- ok
		}()
	}
	for range 8 {
		if !<-done {
			t.Error("calls at one time disturb each other")
		}
	}
}
