package juris_test

import (
	"slices"
	"testing"
)

// P15.3: the chapter's examples, and where several could come next.
func TestOrder(t *testing.T) {
	for _, c := range []struct {
		parents, order []int
	}{
		{nil, nil},
		{[]int{-1}, []int{0}},
		{[]int{-1, 0, 0, 1, -1, 3}, []int{0, 1, 2, 3, 4, 5}},
		{[]int{3, -1, 0, 1}, []int{1, 3, 0, 2}},
		{[]int{-1, -1, -1}, []int{0, 1, 2}},
		{[]int{2, 2, -1}, []int{2, 0, 1}},
		{[]int{1, 2, -1}, []int{2, 1, 0}},
		{[]int{4, -1, 4, -1, -1}, []int{1, 3, 4, 0, 2}},
		{[]int{3, 5, -1, -1, 2, 4}, []int{2, 3, 0, 4, 5, 1}},
		{[]int{6, 6, 0, 1, 0, 1, -1}, []int{6, 0, 1, 2, 3, 4, 5}},
		{[]int{1, 6, 0, 1, 0, 6, -1}, []int{6, 1, 0, 2, 3, 4, 5}},
		{[]int{-1, 5, -1, 5, 0, -1}, []int{0, 2, 4, 5, 1, 3}},
	} {
		wantOrder(t, tree(t, c.parents...), c.parents, c.order)
	}
}

// P15.3: as many places as may be that could all come next at one time.
func TestManyCouldComeNext(t *testing.T) {
	const n = 4096
	rising := make([]int, n)
	for i := range rising {
		rising[i] = i
	}
	roots := slices.Repeat([]int{-1}, n)
	wantOrder(t, tree(t, roots...), roots, rising)
	star := slices.Repeat([]int{n - 1}, n)
	star[n-1] = -1
	wantOrder(t, tree(t, star...), star, append([]int{n - 1}, rising[:n-1]...))
	star = make([]int, n)
	star[0] = -1
	wantOrder(t, tree(t, star...), star, rising)
	// The upper half are roots; each has one of the lower half in it, which comes
	// at once.
	pairs := slices.Repeat([]int{-1}, n)
	var order []int
	for i := range n / 2 {
		pairs[i] = n - 1 - i
		order = append(order, n/2+i, n/2-1-i)
	}
	wantOrder(t, tree(t, pairs...), pairs, order)
}

// P15.3: each once, each behind its parent, and no lesser one could have come.
func TestOrderFollows(t *testing.T) {
	roll := dice(9)
	for range 40 {
		n := 1 + roll.below(4096)
		f := roll.grow(n, 1+roll.below(n), 1+roll.below(n))
		list := tree(t, f.parents...).Order()
		at := slices.Repeat([]int{-1}, n)
		for place, i := range list {
			if at[i] >= 0 {
				t.Fatalf("%d is told twice", i)
			}
			at[i] = place
			if p := f.parents[i]; p >= 0 && at[p] < 0 {
				t.Fatalf("%d comes ahead of %d", i, p)
			}
		}
		if len(list) != n {
			t.Fatalf("%d of %d places", len(list), n)
		}
		// What comes next is less than the one ahead only where it lies right in
		// that one: else it could have come in its place.
		for place := 1; place < n; place++ {
			if list[place] < list[place-1] && f.parents[list[place]] != list[place-1] {
				t.Fatalf("%d comes behind %d", list[place], list[place-1])
			}
		}
	}
}
