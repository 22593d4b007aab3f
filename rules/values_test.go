package rules_test

import (
	"runtime"
	"slices"
	"strconv"
	"strings"
	"testing"

	"tollbook/api"
	"tollbook/juris"
	"tollbook/rules"
	"tollbook/syntax"
)

// full is a book of which each kind of list has something.
func full(t *testing.T) plain {
	t.Helper()
	return decls(t, document+`tax b in us round line down on vat, duty, city instead city, duty; rate b for food 1%, 2% above 3, 4% above 5.5; exempt b when buyer poor and not line book; exempt b for food when not (buyer school or amount < 10); exempt b when buyer poor and not line book;`)
}

// rooms are the same declarations with room behind the end of each list, in which
// something stands.
func rooms(p plain) plain {
	list := append(slices.Clone(p), api.Decl{Kind: api.DeclPlace, Name: "room"})
	for i := range list {
		d := &list[i]
		d.On = append(slices.Clone(d.On), "room", "room")[:len(d.On)]
		d.Instead = append(slices.Clone(d.Instead), "room", "room")[:len(d.Instead)]
		d.Brackets = append(slices.Clone(d.Brackets), api.Bracket{Above: api.Dec{Units: 7}}, api.Bracket{})[:len(d.Brackets)]
		d.When = append(slices.Clone(d.When), api.Node{Kind: 9, Name: "room"}, api.Node{})[:len(d.When)]
	}
	return list[:len(p)]
}

// everything are the declarations with what stands behind the ends of their lists,
// and behind their own, as copies.
func everything(p plain) plain {
	list := slices.Clone(p[:cap(p)])
	for i := range list {
		d := &list[i]
		d.On = slices.Clone(d.On[:cap(d.On)])
		d.Instead = slices.Clone(d.Instead[:cap(d.Instead)])
		d.Brackets = slices.Clone(d.Brackets[:cap(d.Brackets)])
		d.When = slices.Clone(d.When[:cap(d.When)])
	}
	return list
}

// fill writes over all of a list, the room behind its end too.
func fill[T any](list []T, with T) {
	list = list[:cap(list)]
	for i := range list {
		list[i] = with
	}
}

// spoil writes over all that is reached from declarations.
func spoil(p plain) {
	for _, d := range p {
		fill(d.On, "spoilt")
		fill(d.Instead, "spoilt")
		fill(d.Brackets, api.Bracket{Above: api.Dec{Units: -1}})
		fill(d.When, api.Node{Kind: 8, Name: "spoilt"})
	}
	fill(p, api.Decl{Kind: 8, Name: "spoilt"})
}

// R3: what is handed in to Of is neither changed nor kept, nor is the room behind the
// ends; nor is it where a book is refused.
func TestDeclsStay(t *testing.T) {
	p := full(t)
	for _, wrong := range []plain{nil, {{}}, decls(t, "place x in x;"), decls(t, "rate city 5%;"), decls(t, "rate oz 5%; tax x in us round line up on vat, vat;"), decls(t, "currency EUR 2;")} {
		list := rooms(append(slices.Clone(p), wrong...))
		was := everything(list)
		m, fault := rules.Of(list)
		if !syntax.Same(everything(list), was) {
			t.Fatal("what was handed in has changed")
		}
		if (m == nil) != (len(wrong) > 0) || fault != append(slices.Clone(p), wrong...).fault() {
			t.Fatal(fault)
		}
		spoil(list)
		if m != nil {
			wantModel(t, m, p)
		}
	}
}

// R3, R6: what is answered is the caller's, the room behind the ends too: what is
// written there no later answer shows.
func TestAnswersAreTheCallers(t *testing.T) {
	p := full(t)
	m := model(t, p)
	for range 3 {
		canon := m.Canon()
		other := everything(canon)
		spoil(m.Canon())
		fill(m.Places(), "spoilt")
		fill(m.Taxes(), "spoilt")
		fill(m.Order(), "spoilt")
		*m.Tree() = juris.Tree{}
		for _, name := range p.names(api.DeclTax) {
			d, _ := m.Tax(name)
			spoil([]api.Decl{d})
			for _, class := range []string{"food", "wine", "x"} {
				list, _ := m.Rate(name, class, 738000)
				fill(list, api.Bracket{Percent: api.Dec{Units: 99}})
			}
		}
		if !syntax.Same(everything(canon), other) {
			t.Fatal("two answers share memory")
		}
	}
	wantModel(t, m, p)
}

// R3: a tree that was answered is one of its own, and so is a model's next one.
func TestTreesAreTheCallers(t *testing.T) {
	m := model(t, decls(t, example))
	one := m.Tree()
	two := m.Tree()
	*two = juris.Tree{}
	if one.Len() != 3 || m.Tree().Len() != 3 || two.Len() != 0 {
		t.Error("two trees are one")
	}
}

// R3: no two lists of one answer share memory, behind their ends either; nor do the
// declarations that are the same ones.
func TestListsShareNothing(t *testing.T) {
	canon := model(t, full(t)).Canon()
	var marks []func(set bool) bool
	number := 0
	for i := range canon {
		d := &canon[i]
		for _, list := range [][]string{d.On, d.Instead} {
			number++
			marks = append(marks, marking(list, strconv.Itoa(number)))
		}
		number++
		marks = append(marks, marking(d.Brackets, api.Bracket{Above: api.Dec{Units: int64(number)}}), marking(d.When, api.Node{Kids: number}))
	}
	for _, mark := range marks {
		mark(true)
	}
	for _, mark := range marks {
		if !mark(false) {
			t.Fatal("two lists share memory")
		}
	}
}

// marking sets a list to something of its own, or tells whether it is so still.
func marking[T comparable](list []T, own T) func(set bool) bool {
	list = list[:cap(list)]
	return func(set bool) bool {
		if set {
			fill(list, own)
		}
		return !slices.ContainsFunc(list, func(has T) bool { return has != own })
	}
}

// R3: of the texts that are handed in nothing is kept: the long ones of which they are
// pieces may go; nor are the empty pieces of lists.
func TestTextsAreNotKept(t *testing.T) {
	const long = 1 << 20
	heap := func() uint64 {
		var m runtime.MemStats
		runtime.GC()
		runtime.ReadMemStats(&m)
		return m.HeapAlloc
	}
	piece := func(s string) string {
		if s == "" {
			return strings.Repeat("x", long)[5:5]
		}
		return (strings.Repeat("x", long) + s)[long:]
	}
	before := heap()
	p := full(t)
	for i := range p {
		d := &p[i]
		for _, text := range []*string{&d.Name, &d.In, &d.Money, &d.Class} {
			*text = piece(*text)
		}
		for _, list := range [][]string{d.On, d.Instead} {
			for k := range list {
				list[k] = piece(list[k])
			}
		}
		for k := range d.When {
			d.When[k].Name = piece(d.When[k].Name)
		}
		if len(d.On) == 0 {
			d.On = make([]string, long/16)[:0]
		}
		if len(d.Brackets) == 0 {
			d.Brackets = make([]api.Bracket, long/32)[:0]
		}
	}
	m := model(t, p)
	p = nil
	m.Rate(piece("vat"), piece("food"), 5)
	if now := heap(); now > before+long/2 {
		t.Errorf("%d bytes more", now-before)
	}
	wantModel(t, m, full(t))
}

// R6: what two models answer hangs on their own declarations alone, not on what was
// asked meanwhile, nor on other models.
func TestModelsByThemselves(t *testing.T) {
	a, b, c := model(t, decls(t, example)), model(t, decls(t, example)), model(t, decls(t, document))
	for range 3 {
		spoil(a.Canon())
		c.Rate("vat", "food", 738000)
		a.Exempt("vat", "food", 5, someFacts()[1])
		rules.Of(decls(t, "place x;"))
	}
	wantModel(t, a, decls(t, example))
	wantModel(t, b, decls(t, example))
	wantModel(t, c, decls(t, document))
}

// R8: calls on unlike models may be made at one time; and asking one changes nothing
// of it.
func TestAtOneTime(t *testing.T) {
	p := full(t)
	shared := model(t, p)
	canon := shared.Canon()
	sound := func(m *rules.Model) bool {
		list, ok := m.Rate("vat", "food.bread", 738000)
		free, err := m.Exempt("vat", "food.bread", 738000, api.Facts{Buyer: []string{"school"}})
		least, is := m.Least("city", 5)
		money, has := m.Money("berlin")
		tax, there := m.Tax("b")
		return ok && len(list) == 1 && free && err == api.OK && is && least.Units == 1000 && has && money.Name == "EUR" &&
			there && len(tax.On) == 3 && m.Tree().Len() == 4 && len(m.Order()) == 4 && syntax.Same(m.Canon(), canon)
	}
	done := make(chan bool)
	for range 8 {
		go func() {
			own, fault := rules.Of(p)
			ok := fault == api.Fault{}
			for range 10 {
				ok = ok && sound(own) && sound(shared)
				spoil(own.Canon())
			}
			done <- ok
		}()
	}
	for range 8 {
		if !<-done {
			t.Error("calls at one time disturb each other")
		}
	}
	wantModel(t, shared, p)
}
