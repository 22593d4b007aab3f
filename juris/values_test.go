package juris_test

import (
	"slices"
	"testing"

	"tollbook/api"
	"tollbook/juris"
)

// R3: a list that is handed in is neither changed nor kept, nor is the room behind
// its end.
func TestParentsStayTheCallers(t *testing.T) {
	whole := []int{-1, 0, 0, 1, -1, 3, 7, 6, -9}
	room := slices.Clone(whole)
	x := tree(t, room[:6]...)
	f := plainForest(slices.Clone(whole[:6]))
	wantForest(t, x, f)
	wantFault(t, room[:8], api.ErrRing, 6)
	wantFault(t, room, api.ErrParent, 8)
	if !slices.Equal(room, whole) {
		t.Errorf("changed: %v", room)
	}
	path := x.Path(5)
	for i := range room {
		room[i] = i
	}
	wantForest(t, x, f)
	if got := slices.Collect(path); !slices.Equal(got, []int{5, 3, 1, 0}) {
		t.Errorf("%v", got)
	}
}

// R3: what is answered is the caller's, the room behind its end too.
func TestAnswersAreTheCallers(t *testing.T) {
	for _, parents := range [][]int{{-1, 0, 0, 1, -1, 3}, {-1, -1, -1, -1}, {1, 2, 3, -1}, chain(40, 3)} {
		x := tree(t, parents...)
		f := plainForest(parents)
		other := x.Order()
		for i := range parents {
			under, _ := x.Under(i)
			spoil(under)
			spoil(x.Order())
			wantForest(t, x, f)
		}
		if !slices.Equal(other, f.order()) {
			t.Errorf("%v", other)
		}
	}
}

func spoil(list []int) {
	list = list[:cap(list)]
	for i := range list {
		list[i] = -7
	}
}

// R6: two trees of one list share nothing, and one refused leaves the others as
// they were.
func TestTreesByThemselves(t *testing.T) {
	parents := []int{3, -1, 0, 1}
	a, b := tree(t, parents...), tree(t, parents...)
	*a = juris.Tree{}
	wantFault(t, []int{1, 0}, api.ErrRing, 0)
	wantForest(t, b, plainForest(parents))
	c := *b
	*b = *tree(t, -1)
	wantForest(t, &c, plainForest(parents))
	wantForest(t, b, plainForest([]int{-1}))
}

// R8: calls on unlike trees may be made at one time; and asking one changes
// nothing of it.
func TestAtOneTime(t *testing.T) {
	roll := dice(12)
	f := roll.grow(2000, 5, 100)
	shared := tree(t, f.parents...)
	ask := func(x *juris.Tree) [6]int {
		deep, _ := x.Deep(77)
		under, _ := x.Under(f.paths[77][1])
		place, _ := x.Meet(3, 4)
		sum := 0
		for i := range x.Path(55) {
			sum += i
		}
		for at, i := range x.Order() {
			sum += at * i
		}
		parent, _ := x.Parent(9)
		return [6]int{deep, len(under), place, sum, parent, x.Len()}
	}
	want := ask(shared)
	done := make(chan bool)
	for range 8 {
		go func() {
			own, _ := juris.New(f.parents)
			done <- ask(own) == want && ask(shared) == want
		}()
	}
	for range 8 {
		if !<-done {
			t.Error("calls at one time disturb each other")
		}
	}
}
