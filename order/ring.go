package order

import (
	"cmp"
	"slices"
)

// none stands where there is no node.
const none = -1

// search goes down from nodes to what they need, and comes back, to find the knots:
// all nodes that need one another, over however many others, are one. Nodes that
// lie on one ring are in one knot, and in a knot of several each lies on a ring.
type search struct {
	needs [][]int
	// gone is how many of its arcs were gone along from each node.
	gone []int
	// came is which one the node was that was come to, from 1 on; 0: not yet.
	came []int
	many int
	// early is came of the earliest node that each is known to lead back to, of
	// those whose knot is open.
	early []int
	// down is the way from where the search began to where it is.
	down []int
	// open has the nodes that were come to and whose knot may still grow, as they
	// were come to: those of one knot stand together.
	open   []int
	isOpen []bool
	// least is the least node known to lie on a ring, or none.
	least int
}

func leastOnRing(needs [][]int) int {
	n := len(needs)
	s := &search{needs: needs, gone: make([]int, n), came: make([]int, n), early: make([]int, n), isOpen: make([]bool, n), least: none}
	for node := range needs {
		if s.came[node] == 0 {
			s.from(node)
		}
	}
	return s.least
}

// from keeps the way down in a list, as it may be as long as there are nodes.
func (s *search) from(start int) {
	s.goDown(start)
walk:
	for len(s.down) > 0 {
		node := s.down[len(s.down)-1]
		for s.gone[node] < len(s.needs[node]) {
			to := s.needs[node][s.gone[node]]
			s.gone[node]++
			if s.came[to] == 0 {
				s.goDown(to)
				continue walk
			}
			if s.isOpen[to] {
				s.early[node] = min(s.early[node], s.came[to])
			}
		}
		s.comeBack(node)
	}
}

func (s *search) goDown(node int) {
	s.many++
	s.came[node], s.early[node] = s.many, s.many
	s.isOpen[node] = true
	s.down = append(s.down, node)
	s.open = append(s.open, node)
}

func (s *search) comeBack(node int) {
	s.down = s.down[:len(s.down)-1]
	if s.early[node] == s.came[node] {
		s.closeKnot(node)
		return
	}
	over := s.down[len(s.down)-1]
	s.early[over] = min(s.early[over], s.early[node])
}

// closeKnot takes off the knot whose first node is that one.
func (s *search) closeKnot(first int) {
	at := len(s.open) - 1
	for s.open[at] != first {
		at--
	}
	knot := s.open[at:]
	s.open = s.open[:at]
	for _, node := range knot {
		s.isOpen[node] = false
	}
	if len(knot) == 1 && !slices.Contains(s.needs[first], first) {
		return
	}
	if least := slices.Min(knot); s.least == none || least < s.least {
		s.least = least
	}
}

// leastRing is the ring of a node that lies on one: from each node it goes on to
// the one that is nearest to the first one, of like ones to the least.
func leastRing(first int, needs [][]int) []int {
	steps := stepsTo(first, needs)
	nearest := func(node int) int {
		return slices.MinFunc(needs[node], func(a, b int) int {
			return cmp.Or(cmp.Compare(steps[a], steps[b]), cmp.Compare(a, b))
		})
	}
	ring := []int{first}
	for node := nearest(first); node != first; node = nearest(node) {
		ring = append(ring, node)
	}
	return ring
}

// stepsTo tells of each node how many arcs there are from it to the last one at
// the least; where none lead there, more than there can be.
func stepsTo(last int, needs [][]int) []int {
	by := turned(needs)
	steps := slices.Repeat([]int{len(needs)}, len(needs))
	steps[last] = 0
	list := []int{last}
	for at := 0; at < len(list); at++ {
		for _, node := range by[list[at]] {
			if steps[node] == len(needs) {
				steps[node] = steps[list[at]] + 1
				list = append(list, node)
			}
		}
	}
	return steps
}
