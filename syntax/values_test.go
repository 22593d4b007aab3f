package syntax_test

import (
	"slices"
	"strings"
	"testing"

	"tollbook/api"
	"tollbook/syntax"
)

// roomy is a copy of declarations with something behind the end of each list.
func roomy(list []api.Decl) []api.Decl {
	whole := append(deepClone(list), slices.Repeat([]api.Decl{{Kind: -7, Name: "behind"}}, 5)...)
	for i := range whole {
		d := &whole[i]
		d.On, d.Instead = withRoom(d.On, "behind"), withRoom(d.Instead, "behind")
		d.Brackets = withRoom(d.Brackets, api.Bracket{Above: number(-7, -7)})
		d.When = withRoom(d.When, api.Node{Kind: -7})
	}
	return whole[:len(list)]
}

func withRoom[T any](list []T, behind T) []T {
	return append(slices.Clone(list), slices.Repeat([]T{behind}, 5)...)[:len(list)]
}

// withAll is a copy of declarations and of their lists, all with what stands in
// the room behind their ends.
func withAll(list []api.Decl) []api.Decl {
	list = slices.Clone(list[:cap(list)])
	for i, d := range list {
		list[i].On, list[i].Instead = d.On[:cap(d.On)], d.Instead[:cap(d.Instead)]
		list[i].Brackets, list[i].When = d.Brackets[:cap(d.Brackets)], d.When[:cap(d.When)]
	}
	return deepClone(list)
}

// R3: what is handed in is not changed, nor is the room behind its end.
func TestDeclsStay(t *testing.T) {
	x := mixed(31)
	for range 300 {
		list := append(x.decls(5), api.Decl{Kind: 3, Name: "A", On: []string{"X"}})
		if x.odds(2) {
			list = list[:len(list)-1]
		}
		part := roomy(list)
		before := withAll(part)
		syntax.Check(part)
		syntax.Print(part)
		syntax.Same(part, list)
		syntax.Same(list, part)
		if !slowSame(before, withAll(part)) {
			t.Errorf("%v is changed", list)
		}
	}
}

// scribble writes over a list and all the room behind it.
func scribble[T any](list []T, what T) {
	room := list[:cap(list)]
	for i := range room {
		room[i] = what
	}
}

// R3: what is answered is new memory: no later call shows what is written there,
// and no two lists of an answer share any.
func TestAnswersAreTheCallers(t *testing.T) {
	src := book + "tax a in b round line up on c, d, e instead f, g; tax a in b round line up on c instead c;" +
		"exempt a when (buyer a or line b) and (buyer a or line b) or not (buyer c and (line d and buyer e)); exempt a when ((buyer a)); exempt a when not buyer a;" +
		"rate a 1%, 2% above 3; rate a 1%, 2% above 3;"
	want, _ := syntax.Parse(src)
	want = deepClone(want)
	for at := range want {
		for which := range 4 {
			got, _ := syntax.Parse(src)
			expect := deepClone(want)
			switch which {
			case 0:
				scribble(got[at].On, "!")
				scribble(expect[at].On, "!")
			case 1:
				scribble(got[at].Instead, "!")
				scribble(expect[at].Instead, "!")
			case 2:
				scribble(got[at].Brackets, api.Bracket{Above: number(9, 9)})
				scribble(expect[at].Brackets, api.Bracket{Above: number(9, 9)})
			default:
				scribble(got[at].When, api.Node{Kind: 9})
				scribble(expect[at].When, api.Node{Kind: 9})
			}
			if !slowSame(got, expect) {
				t.Errorf("lists of the declaration %d share memory with others", at)
			}
		}
	}
	got, _ := syntax.Parse(src)
	scribble(got, api.Decl{Kind: 9})
	if again, spot := syntax.Parse(src); !slowSame(again, want) || spot != (api.Spot{}) {
		t.Error("a later answer shows what was written into an earlier one")
	}
}

// R6: the same text says the same, whatever was read ahead of it.
func TestNothingIsKept(t *testing.T) {
	want, _ := syntax.Parse(book)
	text, _ := syntax.Print(want)
	for _, src := range []string{"", "place place", "exempt a when " + strings.Repeat("(", 16), "exempt a when not (", "!", "least a 99999999999999999999", strings.Repeat(" ", 70000), "currency EUR 9;"} {
		syntax.Parse(src)
		got, spot := syntax.Parse(book)
		again, fault := syntax.Print(got)
		if !slowSame(got, want) || spot != (api.Spot{}) || again != text || fault != (api.Fault{}) {
			t.Errorf("behind %q the book is %v, %v", short(src), got, spot)
		}
	}
}

// R8: calls may be made at one time.
func TestAtOneTime(t *testing.T) {
	want, _ := syntax.Parse(book)
	done := make(chan bool)
	for n := range 8 {
		go func() {
			ok := true
			for range 20 {
				got, spot := syntax.Parse(book)
				text, fault := syntax.Print(want)
				_, wrong := syntax.Parse("place a;" + strings.Repeat("\n", n) + "place")
				ok = ok && syntax.Same(got, want) && spot == (api.Spot{}) && text == book && fault == (api.Fault{}) && syntax.Check(want) == (api.Fault{}) && wrong.Err == api.ErrSyntax && wrong.Line == n+1
			}
			done <- ok
		}()
	}
	for range 8 {
		if !<-done {
			t.Error("calls at one time disturb each other")
		}
	}
}
