package traits_test

import (
	"slices"
	"testing"

	"tollbook/api"
	"tollbook/traits"
)

// inRoom is a list with room behind its end, and all of it.
func inRoom[T any](list []T, behind T) ([]T, []T) {
	whole := append(slices.Clone(list), slices.Repeat([]T{behind}, 70)...)
	return whole[:len(list)], whole
}

func scribble[T any](list []T, what T) {
	room := list[:cap(list)]
	for i := range room {
		room[i] = what
	}
}

// R3: nodes are not changed, nor is the room behind their end; what is answered
// is new memory.
func TestNodesStay(t *testing.T) {
	facts := someFacts()
	behind := line("behind")[0]
	for i, list := range append(greatConditions(200), smallConditions()[:500]...) {
		part, whole := inRoom(list, behind)
		before := slices.Clone(whole)
		wantPlain, wantErr := traits.Plain(part)
		wantBuyers, wantLines, _ := traits.Names(part)
		plain, _ := traits.Plain(part)
		buyers, lines, _ := traits.Names(part)
		traits.Check(part)
		traits.Holds(part, facts[i%len(facts)])
		scribble(plain, api.Node{Kind: -1})
		scribble(buyers, "!")
		if !slices.Equal(lines, wantLines) {
			t.Errorf("Names(%v): both lists share memory", list)
		}
		scribble(lines, "!")
		if !slices.Equal(whole, before) {
			t.Errorf("%v is changed", list)
		}
		if again, err := traits.Plain(part); !slices.Equal(again, wantPlain) || err != wantErr {
			t.Errorf("Plain(%v) is another one the next time", list)
		}
		wantNames(t, part, wantBuyers, wantLines)
	}
}

// R3: facts are not changed, nor are parts of classes kept.
func TestFactsStay(t *testing.T) {
	buyers, all := inRoom([]string{"a", "b"}, "behind")
	lines, more := inRoom([]string{"c"}, "behind")
	f := api.Facts{Buyer: buyers, Line: lines, Amount: 5, Quantity: 1}
	before, other := slices.Clone(all), slices.Clone(more)
	traits.Fit(f)
	for _, list := range greatConditions(100) {
		traits.Holds(list, f)
	}
	wantHolds(t, buyer("behind"), f, false)
	wantHolds(t, line("behind"), f, false)
	if !slices.Equal(all, before) || !slices.Equal(more, other) {
		t.Errorf("the facts are changed: %v, %v", all, more)
	}
	parts, _ := traits.Class("food.bread")
	again, _ := traits.Class("food.bread")
	scribble(parts, "!")
	if !slices.Equal(again, []string{"food", "bread"}) {
		t.Error("two answers of Class share memory")
	}
	wantClass(t, "food.bread", "food", "bread")
}

// R3: what is written into nodes or facts behind a call changes no answer of it.
func TestNothingKept(t *testing.T) {
	list := not(and(buyer("b"), or(line("c"), buyer("a"))))
	plain, _ := traits.Plain(list)
	buyers, lines, _ := traits.Names(list)
	scribble(list, api.Node{Kind: api.NodeBuyer, Name: "x"})
	if !slices.Equal(plain, or(not(buyer("b")), and(not(line("c")), not(buyer("a"))))) || !slices.Equal(buyers, []string{"a", "b"}) || !slices.Equal(lines, []string{"c"}) {
		t.Errorf("%v, %q, %q", plain, buyers, lines)
	}
}

// R8: calls may be made at one time.
func TestAtOneTime(t *testing.T) {
	list := not(and(buyer("b"), or(line("c"), buyer("a")), amount(api.OpBelow, 5, 0)))
	f := api.Facts{Buyer: []string{"a", "b"}, Amount: 5}
	want, _ := traits.Plain(list)
	done := make(chan bool)
	for range 8 {
		go func() {
			plain, err := traits.Plain(list)
			is, wrong := traits.Holds(list, f)
			buyers, lines, fault := traits.Names(list)
			done <- slices.Equal(plain, want) && is && len(buyers) == 2 && len(lines) == 1 && err == api.OK && wrong == api.OK && fault == api.OK && traits.Covers("a", "a.b")
		}()
	}
	for range 8 {
		if !<-done {
			t.Error("calls at one time disturb each other")
		}
	}
}
