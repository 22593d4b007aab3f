package traits_test

import (
	"slices"
	"testing"

	"tollbook/api"
	"tollbook/traits"
)

// someConditions are small ones, each with its Not, and great ones.
func someConditions() []nodes {
	all := greatConditions(1000)
	for _, list := range smallConditions() {
		all = append(all, list)
		if len(list) > 0 {
			all = append(all, not(list))
		}
	}
	return all
}

func holds(t *testing.T, list nodes, f api.Facts) bool {
	t.Helper()
	is, err := traits.Holds(list, f)
	if err != api.OK {
		t.Fatalf("Holds(%v, %v) is error %d", list, f, err)
	}
	return is
}

// P13.6: Plain of a condition is one, no deeper, which holds where that one
// does, names what it names, and whose Plain is itself; it has no Not but of
// traits.
func TestPlainFollows(t *testing.T) {
	t.Parallel()
	facts := someFacts()
	for i, list := range someConditions() {
		plain, err := traits.Plain(list)
		if err == api.ErrLong {
			continue
		}
		if err != api.OK || traits.Check(plain) != api.OK || slowCheck(plain) != api.OK {
			t.Fatalf("Plain(%v) is %v, %d", list, plain, err)
		}
		if again, err := traits.Plain(plain); !slices.Equal(again, plain) || err != api.OK {
			t.Errorf("Plain(%v) is %v, %d", plain, again, err)
		}
		buyers, lines, _ := traits.Names(list)
		wantNames(t, plain, buyers, lines)
		for j := range 12 {
			f := facts[(i+17*j)%len(facts)]
			if holds(t, plain, f) != holds(t, list, f) {
				t.Errorf("%v and %v, %v", list, plain, f)
			}
		}
		if len(list) > 0 && only(t, plain).deep() > only(t, list).deep() {
			t.Errorf("%v is deeper than %v", plain, list)
		}
		for j, n := range plain {
			if n.Kind == api.NodeNot && plain[j+1].Kind != api.NodeBuyer && plain[j+1].Kind != api.NodeLine {
				t.Errorf("Plain(%v) is %v", list, plain)
			}
		}
	}
}

// P13.6: a Not of a condition holds just where that one does not.
func TestNotFollows(t *testing.T) {
	t.Parallel()
	facts := someFacts()
	for i, list := range smallConditions() {
		if len(list) == 0 {
			continue
		}
		for j := range 6 {
			f := facts[(i+23*j)%len(facts)]
			if holds(t, not(list), f) == holds(t, list, f) {
				t.Errorf("%v and its Not, %v", list, f)
			}
		}
	}
}

// P13.6: a class covers itself; what covers what covers a class covers it, too.
func TestCoversFollows(t *testing.T) {
	all := append(someClasses(), "a.b.c.d.e.f.g.h.i.j", "food.bread.rye.old")
	for _, x := range all {
		if _, err := traits.Class(x); (err == api.OK) != traits.Covers(x, x) || (err == api.OK) != traits.Covers("", x) {
			t.Errorf("Covers(%.40q, the same)", x)
		}
		for _, y := range all {
			if !traits.Covers(x, y) {
				continue
			}
			for _, z := range all {
				if traits.Covers(y, z) && !traits.Covers(x, z) {
					t.Errorf("%q covers %q, which covers %q", x, y, z)
				}
			}
		}
	}
}

// P13.6: traits that a condition doesn't name play no part: with all of them, or
// none, it is as it was.
func TestOthersPlayNoPart(t *testing.T) {
	t.Parallel()
	facts := someFacts()
	without := func(list, names []string) []string {
		return slices.DeleteFunc(slices.Clone(list), func(s string) bool { return !slices.Contains(names, s) })
	}
	with := func(list, names []string) []string {
		all := slices.Clone(list)
		for _, s := range []string{"a", "b", "c", "other", "x_1"} {
			if !slices.Contains(names, s) && !slices.Contains(list, s) {
				all = append(all, s)
			}
		}
		slices.Sort(all)
		return all
	}
	for i, list := range someConditions() {
		buyers, lines, err := traits.Names(list)
		if err != api.OK {
			t.Fatalf("Names(%v) is error %d", list, err)
		}
		for j := range 4 {
			f := facts[(i+29*j)%len(facts)]
			less, more := f, f
			less.Buyer, less.Line = without(f.Buyer, buyers), without(f.Line, lines)
			more.Buyer, more.Line = with(f.Buyer, buyers), with(f.Line, lines)
			if want := holds(t, list, f); holds(t, list, less) != want || holds(t, list, more) != want {
				t.Errorf("%v: %v, %v and %v", list, f, less, more)
			}
		}
	}
}
