package traits_test

import (
	"slices"
	"testing"

	"tollbook/api"
	"tollbook/traits"
)

func wantNames(t *testing.T, list nodes, buyers, lines []string) {
	t.Helper()
	if got, others, err := traits.Names(list); !slices.Equal(got, buyers) || !slices.Equal(others, lines) || err != api.OK {
		t.Errorf("Names(%v) is %q, %q, %d, want %q, %q", few(list), got, others, err, buyers, lines)
	}
}

// slowNames are found by asking of each name that there may be.
func slowNames(list nodes, kind api.NodeKind, all []string) []string {
	var names []string
	for _, name := range all {
		if slices.Contains(list, api.Node{Kind: kind, Name: name}) {
			names = append(names, name)
		}
	}
	return names
}

// P13.5: the chapter's example; names that stand twice, on both sides, below a
// Not; conditions without a name.
func TestNames(t *testing.T) {
	wantNames(t, and(buyer("b"), line("x"), or(buyer("a"), buyer("b"))), []string{"a", "b"}, []string{"x"})
	wantNames(t, nil, nil, nil)
	wantNames(t, nodes{}, nil, nil)
	wantNames(t, buyer("a"), []string{"a"}, nil)
	wantNames(t, line("a"), nil, []string{"a"})
	wantNames(t, not(line("a")), nil, []string{"a"})
	wantNames(t, nots(15, buyer("a")), []string{"a"}, nil)
	wantNames(t, or(line("a"), buyer("a")), []string{"a"}, []string{"a"})
	wantNames(t, or(below5, quantity(api.OpMost, 3, 0)), nil, nil)
	wantNames(t, or(a, not(a), a), []string{"a"}, nil)
	wantNames(t, and(line("b"), line("a"), line("b"), line("a"), buyer("z")), []string{"z"}, []string{"a", "b"})
	wantNames(t, or(times(63, line("a"))...), nil, []string{"a"})
	wantNames(t, or(buyer("aa"), buyer("a_"), buyer("a1"), buyer("a"), buyer("b"), buyer("a0"), buyer("a1")), []string{"a", "a0", "a1", "a_", "aa", "b"}, nil)
	// More than a buyer may have.
	var each []nodes
	many := manyTraits(63)
	for _, name := range slices.Backward(many) {
		each = append(each, buyer(name))
	}
	wantNames(t, or(each...), many, nil)
}

// P13.5: all small conditions and many great ones.
func TestNamesAll(t *testing.T) {
	for _, list := range append(smallConditions(), greatConditions(1000)...) {
		wantNames(t, list, slowNames(list, api.NodeBuyer, []string{"a", "b", "c"}), slowNames(list, api.NodeLine, []string{"a", "b", "c"}))
	}
}
