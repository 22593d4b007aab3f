package rat_test

import (
	"testing"

	"tollbook/api"
	"tollbook/rat"
	"tollbook/whole"
)

// followRats are short and long ones, of both signs.
func followRats(t *testing.T) []rat.Rat {
	t.Helper()
	x := mixed(31)
	rats := someRats(t)
	for _, n := range []int{20, 200, 330} {
		rats = append(rats, over(t, number(t, n%20 == 0, x.list(n)...), number(t, false, x.list(n+7)...)))
	}
	return append(rats, over(t, two(t, end, -1), whole.Small(1)), over(t, whole.Small(-1), two(t, end, -1)), over(t, two(t, end, -1), two(t, end, -3)))
}

type reckon func(a, b rat.Rat) (rat.Rat, api.Errno)

// P5.7: sums and products are the same from both sides, too long from both if
// from one, and all that is answered is normal.
func TestFromBothSides(t *testing.T) {
	t.Parallel()
	rats := followRats(t)
	for i, a := range rats {
		for _, b := range rats[i:] {
			for _, call := range []reckon{rat.Add, rat.Mul} {
				r, e := call(a, b)
				s, f := call(b, a)
				if e != f {
					t.Errorf("errors %d, %d", e, f)
				}
				wantSame(t, r, s, "from both sides")
				wantNormal(t, r, "a sum or a product")
			}
		}
	}
}

// P5.7: in any order, where nothing is too long.
func TestInAnyOrder(t *testing.T) {
	t.Parallel()
	rats := followRats(t)
	for i, a := range rats {
		for j, b := range rats[i%3:] {
			c := rats[(i*7+j*5)%len(rats)]
			for _, call := range []reckon{rat.Add, rat.Mul} {
				ab, e := call(a, b)
				bc, f := call(b, c)
				if e != api.OK || f != api.OK {
					continue
				}
				left, e := call(ab, c)
				right, f := call(a, bc)
				if e != f {
					t.Errorf("errors %d, %d", e, f)
				}
				wantSame(t, left, right, "in any order")
			}
		}
	}
}

// P5.7: products share out over sums, where nothing is too long.
func TestShareOut(t *testing.T) {
	t.Parallel()
	rats := followRats(t)
	asked := 0
	for i, a := range rats {
		for j, b := range rats[i%2:] {
			c := rats[(i*5+j*11)%len(rats)]
			bc, e := rat.Add(b, c)
			ab, f := rat.Mul(a, b)
			ac, g := rat.Mul(a, c)
			if e != api.OK || f != api.OK || g != api.OK {
				continue
			}
			left, e := rat.Mul(a, bc)
			right, f := rat.Add(ab, ac)
			if e != f {
				t.Errorf("errors %d, %d", e, f)
			}
			wantSame(t, left, right, "a * (b + c)")
			asked++
		}
	}
	if asked < 400 {
		t.Errorf("%d sums alone", asked)
	}
}

// P5.7: a - a is 0, (a / b) * b is a, (a + b) - b is a, and Compare goes with
// the sign of a - b.
func TestThereAndBack(t *testing.T) {
	t.Parallel()
	rats := followRats(t)
	for _, a := range rats {
		gone, e := rat.Sub(a, a)
		wantOK(t, e, "a - a")
		wantFrac(t, gone, frac{0, 1}, "a - a")
		again, e := rat.Of(a.Plain())
		wantOK(t, e, "Of of Plain")
		wantSame(t, again, a, "Of of Plain")
		wantSame(t, over(t, a.Num(), denOf(a)), a, "Num over Den")
		for _, b := range rats {
			if less, e := rat.Sub(a, b); e == api.OK && rat.Compare(a, b) != less.Sign() {
				t.Error("Compare goes against the sign of a - b")
			}
			if all, e := rat.Add(a, b); e == api.OK {
				back, e := rat.Sub(all, b)
				wantOK(t, e, "(a + b) - b")
				wantSame(t, back, a, "(a + b) - b")
			}
			if share, e := rat.Quo(a, b); e == api.OK {
				back, e := rat.Mul(share, b)
				wantOK(t, e, "(a / b) * b")
				wantSame(t, back, a, "(a / b) * b")
			}
		}
	}
}

// P5.7: Plain of what any call answers is normal.
func TestAllIsNormal(t *testing.T) {
	t.Parallel()
	rats := followRats(t)
	for i, a := range rats {
		wantNormal(t, a, "what was made")
		b := rats[(i+3)%len(rats)]
		for _, c := range calls() {
			for _, r := range c.run(a, b).numbers {
				wantNormal(t, r, c.name)
			}
		}
	}
}
