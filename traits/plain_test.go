package traits_test

import (
	"slices"
	"testing"

	"tollbook/api"
	"tollbook/traits"
)

func wantForm(t *testing.T, list, want nodes) {
	t.Helper()
	if plain, err := traits.Plain(list); !slices.Equal(plain, want) || err != api.OK {
		t.Errorf("Plain(%v) is %v, %d, want %v", few(list), few(plain), err, few(want))
	}
}

func wantTooLong(t *testing.T, list nodes) {
	t.Helper()
	if plain, err := traits.Plain(list); len(plain) != 0 || err != api.ErrLong {
		t.Errorf("Plain(%v) is %v, %d", few(list), few(plain), err)
	}
}

func wantSlowForm(t *testing.T, list nodes) {
	t.Helper()
	if want, err := slowPlain(t, list); err == api.OK {
		wantForm(t, list, want)
	} else {
		wantTooLong(t, list)
	}
}

var (
	a, b, c = buyer("a"), line("b"), buyer("c")
	below5  = amount(api.OpBelow, 5, 0)
	least5  = amount(api.OpLeast, 5, 0)
)

// P13.4: the chapter's examples.
func TestPlainExamples(t *testing.T) {
	wantForm(t, not(not(a)), a)
	wantForm(t, not(and(a, below5)), or(not(a), least5))
	wantForm(t, or(a, not(and(not(b), not(c)))), or(a, b, c))
	wantTooLong(t, not(and(times(62, a)...)))
	wantForm(t, not(and(times(62, below5)...)), or(times(62, least5)...))
	wantForm(t, nil, nil)
	wantForm(t, nodes{}, nil)
}

// P13.4: what has no Not but of a trait stays as it is.
func TestPlainStays(t *testing.T) {
	for _, x := range everyTest() {
		wantForm(t, x, x)
	}
	for _, x := range []nodes{not(a), not(b), or(a, b), and(a, a, a), or(a, and(b, or(c, not(a))), below5), and(or(c, b), a, or(b, c)), or(times(63, a)...), and(times(21, or(a, b))...)} {
		wantForm(t, x, x)
	}
}

// P13.4: a Not of each test: of numbers the opposite Op, the value as it was;
// and rows of Nots.
func TestPlainNots(t *testing.T) {
	ops := map[api.Op]api.Op{api.OpBelow: api.OpLeast, api.OpLeast: api.OpBelow, api.OpMost: api.OpAbove, api.OpAbove: api.OpMost}
	for op, other := range ops {
		for _, d := range []api.Dec{{}, {Units: 7}, {Units: 125, Places: 1}, {Units: 1, Places: 9}} {
			for n := range 8 {
				x, y := amount(op, d.Units, d.Places), quantity(op, d.Units, d.Places)
				wantForm(t, nots(2*n, x), x)
				wantForm(t, nots(2*n, y), y)
				wantForm(t, nots(2*n+1, x), amount(other, d.Units, d.Places))
				wantForm(t, nots(2*n+1, y), quantity(other, d.Units, d.Places))
			}
		}
	}
	for n := range 8 {
		for _, x := range []nodes{a, b} {
			wantForm(t, nots(2*n, x), x)
			wantForm(t, nots(2*n+1, x), not(x))
		}
	}
	for n := range 7 {
		wantForm(t, nots(2*n, or(a, b, below5)), or(a, b, below5))
		wantForm(t, nots(2*n+1, or(a, b, below5)), and(not(a), not(b), least5))
		wantForm(t, nots(2*n, and(a, b, below5)), and(a, b, below5))
		wantForm(t, nots(2*n+1, and(a, b, below5)), or(not(a), not(b), least5))
	}
}

// P13.4: Nots go down through all there is.
func TestPlainDown(t *testing.T) {
	wantForm(t, not(or(a, and(b, c))), and(not(a), or(not(b), not(c))))
	wantForm(t, not(and(or(a, below5), or(b, c))), or(and(not(a), least5), and(not(b), not(c))))
	wantForm(t, not(or(not(a), not(b))), and(a, b))
	wantForm(t, not(and(not(a), b)), or(a, not(b)))
	wantForm(t, not(or(and(a, or(b, c)), not(least5))), and(or(not(a), and(not(b), not(c))), least5))
	wantForm(t, and(not(or(a, b)), or(c, not(not(a)))), and(not(a), not(b), or(c, a)))
	wantForm(t, not(and(a, not(or(b, not(and(c, below5)))))), or(not(a), b, not(c), least5))
}

// P13.4: an Or that comes to be in an Or gives its kids in its place, an And in
// an And; the order stays, whichever kid it is, and however far it comes.
func TestPlainGives(t *testing.T) {
	d := line("d")
	wantForm(t, or(a, not(not(or(b, c)))), or(a, b, c))
	wantForm(t, and(a, not(not(and(b, c)))), and(a, b, c))
	wantForm(t, or(not(and(a, b)), c, d), or(not(a), not(b), c, d))
	wantForm(t, or(c, not(and(a, b)), d), or(c, not(a), not(b), d))
	wantForm(t, or(c, d, not(and(a, b))), or(c, d, not(a), not(b)))
	wantForm(t, and(c, not(or(a, b)), not(or(b, a)), d), and(c, not(a), not(b), not(b), not(a), d))
	wantForm(t, or(a, not(not(or(b, not(not(or(c, nots(4, or(d, a)))))))), b), or(a, b, c, d, a, b))
	wantForm(t, or(nots(2, or(nots(2, or(a, b)), c)), d), or(a, b, c, d))
	wantForm(t, not(and(or(a, b), not(or(c, d)))), or(and(not(a), not(b)), c, d))
	wantForm(t, not(or(a, not(and(b, not(or(c, d)))))), and(not(a), b, not(c), not(d)))
	wantForm(t, and(a, not(not(or(b, c)))), and(a, or(b, c)))
	wantForm(t, or(a, not(not(and(b, c)))), or(a, and(b, c)))
	wantForm(t, or(a, and(b, not(not(or(c, d))))), or(a, and(b, or(c, d))))
	wantForm(t, or(a, not(or(b, c))), or(a, and(not(b), not(c))))
	wantForm(t, and(a, not(and(b, c))), and(a, or(not(b), not(c))))
	wantForm(t, or(and(a, not(or(b, c))), and(b, nots(2, and(c, d)))), or(and(a, not(b), not(c)), and(b, c, d)))
}

// P13.4: just MaxNodes nodes, and one more: only what comes out counts.
func TestPlainLong(t *testing.T) {
	for n := range 63 {
		for m := range 63 - n {
			if n+m < 2 {
				continue
			}
			list := not(and(append(times(n, a), times(m, below5)...)...))
			if 1+2*n+m <= 64 {
				wantForm(t, list, or(append(times(n, not(a)), times(m, least5)...)...))
			} else {
				wantTooLong(t, list)
			}
		}
	}
	wantForm(t, not(and(append(times(31, a), below5)...)), or(append(times(31, not(a)), least5)...))
	wantTooLong(t, not(and(times(32, a)...)))
	wantForm(t, not(and(append(times(61, below5), a)...)), or(append(times(61, least5), not(a))...))
	wantTooLong(t, not(and(append(times(60, below5), a, b)...)))
	// On the way, with Ors in the Or, there are more than MaxNodes.
	wantForm(t, or(times(15, not(and(a, a)))...), or(times(30, not(a))...))
	wantForm(t, and(times(10, not(or(a, a, not(b))))...), and(slices.Repeat([]nodes{not(a), not(a), b}, 10)...))
	// What is too long for its Not alone is not.
	wantForm(t, and(times(63, a)...), and(times(63, a)...))
	wantForm(t, nots(2, or(times(61, a)...)), or(times(61, a)...))
	wantTooLong(t, nots(3, or(times(60, a)...)))
	wantForm(t, nots(3, or(times(60, below5)...)), and(times(60, least5)...))
}

// P13.4: all small conditions and many great ones, some of which are too long.
func TestPlainAll(t *testing.T) {
	long := 0
	for _, list := range someConditions() {
		wantSlowForm(t, list)
		if _, err := slowPlain(t, list); err != api.OK {
			long++
		}
	}
	if long < 20 {
		t.Errorf("%d are too long", long)
	}
}
