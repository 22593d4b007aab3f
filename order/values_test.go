package order_test

import (
	"slices"
	"testing"

	"tollbook/api"
	"tollbook/order"
)

// R3: what is handed in is neither changed nor kept, nor is the room behind the
// ends.
func TestArgumentsStay(t *testing.T) {
	roll := dice(73)
	for _, g := range someGraphs() {
		if g.n == 0 {
			continue
		}
		all := append(slices.Clone(g.all), arcs(-7, -8, 9, 9)...)
		from := append([]int{g.n - 1, 0, roll.below(g.n), 0}, -5, -6)
		wasArcs, wasFrom := slices.Clone(all), slices.Clone(from)
		list, _ := order.Sort(g.n, all[:len(g.all)])
		loop, _ := order.Ring(g.n, all[:len(g.all)])
		needed, _ := order.Needs(g.n, all[:len(g.all)], from[:4])
		if !slices.Equal(all, wasArcs) || !slices.Equal(from, wasFrom) {
			t.Fatal("what was handed in has changed")
		}
		wasList, wasLoop, wasNeeded := slices.Clone(list), slices.Clone(loop), slices.Clone(needed)
		clear(all)
		clear(from)
		if !slices.Equal(list, wasList) || !slices.Equal(loop, wasLoop) || !slices.Equal(needed, wasNeeded) {
			t.Fatal("an answer has changed with what was handed in")
		}
	}
}

// R3: a call that is refused changes nothing of what is handed in either.
func TestArgumentsOfRefusedStay(t *testing.T) {
	all, from := append(ring(0, 3, 1), arcs(2, 4)...), []int{3, 3, 0, 9}
	wasArcs, wasFrom := slices.Clone(all), slices.Clone(from)
	wantError(t, 4, all, from, api.ErrArc)
	wantSort(t, 5, all, nil, api.ErrRing)
	wantNeeds(t, 5, all, from, nil, api.ErrArg)
	if !slices.Equal(all, wasArcs) || !slices.Equal(from, wasFrom) {
		t.Error("what was handed in has changed")
	}
}

// R3, R6: what is answered is the caller's, the room behind its end too; what is
// written there no later call shows, and no answer of ahead.
func TestAnswersAreTheCallers(t *testing.T) {
	for _, g := range someGraphs() {
		if g.n > 500 || g.n == 0 {
			continue
		}
		from := []int{0, g.n - 1}
		ask := func() [][]int {
			list, _ := order.Sort(g.n, g.all)
			loop, _ := order.Ring(g.n, g.all)
			needed, _ := order.Needs(g.n, g.all, from)
			return [][]int{list, loop, needed}
		}
		first, spoilt := ask(), ask()
		want := [][]int{slices.Clone(first[0]), slices.Clone(first[1]), slices.Clone(first[2])}
		for i := range spoilt {
			spoil(spoilt[i])
			for k, again := range ask() {
				if !slices.Equal(again, want[k]) || !slices.Equal(first[k], want[k]) {
					t.Fatal("answers share memory")
				}
			}
		}
		if !slices.Equal(from, []int{0, g.n - 1}) {
			t.Fatal("what was handed in has changed")
		}
	}
}

func spoil(list []int) {
	list = list[:cap(list)]
	for i := range list {
		list[i] = -7
	}
}

// R6: what is answered does not hang on what was asked ahead.
func TestCallsByThemselves(t *testing.T) {
	for range 3 {
		wantSort(t, 2, ring(0, 1), nil, api.ErrRing)
		wantSort(t, 4, arcs(0, 2, 2, 3, 1, 3), []int{3, 1, 2, 0}, api.OK)
		wantRing(t, 4, append(ring(0, 1, 2), ring(0, 1, 3)...), []int{0, 1, 2}, api.OK)
		wantError(t, 2, arcs(0, 2), nil, api.ErrArc)
		wantRing(t, 4, ring(2, 3), []int{2, 3}, api.OK)
		wantNeeds(t, 4, ring(2, 3), []int{2}, []int{2, 3}, api.OK)
		wantNeeds(t, 4, row(2, 3), []int{2}, []int{3}, api.OK)
	}
}

// R8: calls may be made at one time, of one graph too.
func TestAtOneTime(t *testing.T) {
	roll := dice(79)
	n := 2000
	shared, loops := roll.free(n, 9000), roll.graph(n, 9000)
	ask := func(all []api.Arc) [3][]int {
		list, _ := order.Sort(n, all)
		loop, _ := order.Ring(n, all)
		needed, _ := order.Needs(n, all, []int{77, 1, 77})
		return [3][]int{list, loop, needed}
	}
	same := func(a, b [3][]int) bool {
		return slices.Equal(a[0], b[0]) && slices.Equal(a[1], b[1]) && slices.Equal(a[2], b[2])
	}
	want, wantLoops := ask(shared), ask(loops)
	done := make(chan bool)
	for range 8 {
		go func() {
			done <- same(ask(shared), want) && same(ask(loops), wantLoops) && same(ask(slices.Clone(loops)), wantLoops)
		}()
	}
	for range 8 {
		if !<-done {
			t.Error("calls at one time disturb each other")
		}
	}
}
