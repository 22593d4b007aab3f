package juris

import (
	"container/heap"
)

// ready is a heap of the places that could come next: the least stands first.
type ready []int

func (r ready) Len() int           { return len(r) }
func (r ready) Less(a, b int) bool { return r[a] < r[b] }
func (r ready) Swap(a, b int)      { r[a], r[b] = r[b], r[a] }

func (r *ready) Push(place any) {
	*r = append(*r, place.(int))
}

func (r *ready) Pop() any {
	last := len(*r) - 1
	place := (*r)[last]
	*r = (*r)[:last]
	return place
}

func (t *Tree) Order() []int {
	roots, kids := t.down()
	// Roots that rise are a heap as they stand.
	next := ready(roots)
	var list []int
	for len(next) > 0 {
		place := next[0]
		heap.Pop(&next)
		list = append(list, place)
		for _, kid := range kids[place] {
			heap.Push(&next, kid)
		}
	}
	return list
}
