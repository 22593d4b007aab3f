package rat_test

import (
	"slices"
	"testing"

	"tollbook/nat"
	"tollbook/rat"
	"tollbook/whole"
)

// simplestOf goes through all denominators, and for each through all numbers
// from 0 on, on both sides, as far as a and b lie.
func simplestOf(a, b frac) frac {
	if b.compare(a) < 0 {
		a, b = b, a
	}
	far := max(a.num/a.den, -a.num/a.den, b.num/b.den, -b.num/b.den) + 1
	for den := int64(1); ; den++ {
		for num := range far*den + 1 {
			for _, f := range []frac{{num, den}, {-num, den}} {
				if a.compare(f) <= 0 && f.compare(b) <= 0 {
					return f
				}
			}
		}
	}
}

// P5.6: small numbers, in either order, alike, on both sides of 0 and about it.
func TestBetweenSmall(t *testing.T) {
	t.Parallel()
	fracs := []frac{{355, 113}, {-355, 113}, {22, 7}, {-22, 7}, {311, 100}, {31, 10}, {100, 99}, {99, 98}, {-1, 1000}, {1, 999}, {2, 999}}
	for den := int64(1); den <= 9; den++ {
		for num := -2 * den; num <= 3*den; num++ {
			fracs = append(fracs, frac{num, den})
		}
	}
	for _, f := range fracs {
		for _, o := range fracs {
			got := rat.Between(of(t, f), of(t, o))
			wantFrac(t, got, simplestOf(f, o), "Between")
		}
	}
}

// P5.6: all of a narrow band, where many pieces are taken off.
func TestBetweenNarrow(t *testing.T) {
	t.Parallel()
	for den := int64(20); den <= 60; den += 7 {
		for num := den; num < 2*den; num++ {
			for _, width := range []int64{1, 2, 3, 17} {
				f, o := frac{num, den}, frac{num*width*3 + 1, den * width * 3}
				wantFrac(t, rat.Between(of(t, f), of(t, o)), simplestOf(f, o), "Between")
				wantFrac(t, rat.Between(of(t, frac{-f.num, f.den}), of(t, frac{-o.num, o.den})), simplestOf(frac{-f.num, f.den}, frac{-o.num, o.den}), "Between")
			}
		}
	}
}

// grown is a number above 0 made of whole numbers, each put to what was turned
// upside down ahead of it: num over den. ahead and under are the number made
// of all of them but the last.
//
// The two numbers beside it are ahead over under, and both parts less these. Of
// all numbers that lie strictly within these two it has the least parts: that
// is what Between is held against.
type grown struct {
	num, den, ahead, under whole.Int
}

func grow(t *testing.T, numbers ...whole.Int) grown {
	t.Helper()
	g := grown{num: whole.Small(1), under: whole.Small(1)}
	for _, n := range numbers {
		g = grown{sum(t, product(t, n, g.num), g.ahead), sum(t, product(t, n, g.den), g.under), g.num, g.den}
	}
	return g
}

func (g grown) rat(t *testing.T) rat.Rat {
	t.Helper()
	return over(t, g.num, g.den)
}

// near lies strictly within the number and one of the two beside it, the nearer
// to the number the more times that is counted.
func (g grown) near(t *testing.T, first bool, times int64) rat.Rat {
	t.Helper()
	besideNum, besideDen := g.ahead, g.under
	if !first {
		besideNum, besideDen = sum(t, g.num, g.ahead.Neg()), sum(t, g.den, g.under.Neg())
	}
	by := whole.Small(times)
	return over(t, sum(t, product(t, by, g.num), besideNum), sum(t, product(t, by, g.den), besideDen))
}

// wantBetween asks from both sides, and the same on the other side of 0.
func wantBetween(t *testing.T, a, b, want rat.Rat, what string) {
	t.Helper()
	wantSame(t, rat.Between(a, b), want, what)
	wantSame(t, rat.Between(b, a), want, what)
	wantSame(t, rat.Between(a.Neg(), b.Neg()), want.Neg(), what)
}

// wantSimplest holds Between of numbers about the one that is grown, and up to
// it, against it.
func wantSimplest(t *testing.T, g grown) {
	t.Helper()
	r := g.rat(t)
	wantBetween(t, r, r, r, "Between of two alike")
	for _, times := range []int64{1, 2, 1000} {
		one, other := g.near(t, true, times), g.near(t, false, times)
		wantBetween(t, one, other, r, "Between of two about a number")
		wantBetween(t, one, r, r, "Between of one and a number near it")
		wantBetween(t, r, other, r, "Between of a number and one near it")
	}
}

// wholes are n whole numbers from 1 on, of up to so many bits; the last one is
// above 1, so that what is grown from them has no other form.
func wholes(t *testing.T, x *mixed, n, bits int) []whole.Int {
	t.Helper()
	list := []whole.Int{}
	for range n {
		far, _ := nat.Right(natOf(t, x.list(bits/64+1)), int(x.next()%uint64(bits))+64-bits%64)
		list = append(list, sum(t, whole.New(false, far), whole.Small(1)))
	}
	return append(list, whole.Small(2+int64(x.next()%1000)))
}

// P5.6: numbers grown of small and of long whole numbers.
func TestBetweenGrown(t *testing.T) {
	t.Parallel()
	x := mixed(21)
	for n := range 25 {
		for _, bits := range []int{1, 2, 3, 30, 62, 63, 64, 65, 130, 500} {
			list := wholes(t, &x, n, bits)
			wantSimplest(t, grow(t, list...))
			wantSimplest(t, grow(t, slices.Concat([]whole.Int{whole.Small(0)}, list)...))
		}
	}
}

// P5.6: what is whole, however far from 0: the least one, nearest to 0.
func TestBetweenWhole(t *testing.T) {
	t.Parallel()
	unit := whole.Small(1)
	for _, n := range []whole.Int{unit, whole.Small(2), whole.Small(maxInt), two(t, 64, -1), two(t, 64, 0), two(t, 64, 1), two(t, end/2, 0), two(t, end-64, -1), two(t, end-3, 1)} {
		r := over(t, n, unit)
		next := over(t, sum(t, n, unit), unit)
		nearly := over(t, sum(t, n, n, whole.Small(-1)), whole.Small(2))
		wantBetween(t, nearly, over(t, two(t, end, -1), unit), r, "Between from nearly a whole number on")
		wantBetween(t, nearly, next, r, "Between of nearly a whole number and the next")
		wantBetween(t, nearly, r, r, "Between of nearly a whole number and it")
		wantBetween(t, r, next, r, "Between of two whole numbers")
		wantBetween(t, r, r, r, "Between of a whole number and itself")
		wantBetween(t, r, r.Neg(), rat.Rat{}, "Between about 0")
		wantBetween(t, r, rat.Rat{}, rat.Rat{}, "Between up to 0")
		wantBetween(t, over(t, unit, n), over(t, two(t, end, -1).Neg(), unit), rat.Rat{}, "Between about 0")
		under := over(t, unit, sum(t, n, unit))
		wantBetween(t, under, over(t, whole.Small(2), sum(t, n, n, unit)), under, "Between of two that are nearly alike")
	}
}

// P5.6: numbers of 1024 limbs of which nearly all is taken off.
func TestBetweenLong(t *testing.T) {
	t.Parallel()
	x := mixed(22)
	for _, c := range []struct{ n, bits int }{{64, 1600}, {800, 150}, {1500, 60}, {2000, 44}} {
		numbers := wholes(t, &x, 20*c.n, c.bits)
		t.Run("", func(t *testing.T) {
			t.Parallel()
			g := growTo(t, numbers, end-12)
			if long := g.rat(t).Long(); long < most-40 {
				t.Errorf("a number of %d limbs alone", long)
			}
			r, one, other := g.rat(t), g.near(t, true, 1), g.near(t, false, 1)
			wantBetween(t, one, other, r, "Between of two about a long number")
			wantBetween(t, one, r, r, "Between of one and a long number near it")
			wantSame(t, rat.Between(r, r), r, "Between of a long number and itself")
		})
	}
}

// growTo takes as many of the numbers as there is room for in that many bits.
func growTo(t *testing.T, numbers []whole.Int, bits int) grown {
	t.Helper()
	g, room := grow(t), bits
	for i, n := range numbers {
		if room -= n.Abs().Bits(); room < 0 || i == len(numbers)-1 {
			break
		}
		g = grown{sum(t, product(t, n, g.num), g.ahead), sum(t, product(t, n, g.den), g.under), g.num, g.den}
	}
	// The last one is above 1, so that the number has no other form.
	three := whole.Small(3)
	return grown{sum(t, product(t, three, g.num), g.ahead), sum(t, product(t, three, g.den), g.under), g.num, g.den}
}

// P5.6, R1: the most pieces that two numbers of 1024 limbs can have.
func TestBetweenOfTheMostPieces(t *testing.T) {
	t.Parallel()
	row := [4]whole.Int{whole.Small(1), whole.Small(1), whole.Small(2), whole.Small(3)}
	for next := row[3]; next.Abs().Bits() <= end; next = sum(t, row[2], row[3]) {
		row = [4]whole.Int{row[1], row[2], row[3], next}
	}
	first, second, third := over(t, row[1], row[0]), over(t, row[2], row[1]), over(t, row[3], row[2])
	if first.Long() != most || third.Long() != most {
		t.Error("the row is too short")
	}
	wantBetween(t, third, second, second, "Between of two neighbours of the row")
	wantBetween(t, third, first, first, "Between of two of the row")
}

// P5.6: numbers of 1024 limbs that have nothing in common.
func TestBetweenUnlike(t *testing.T) {
	t.Parallel()
	long := append(longRats(t), someRats(t)...)
	for i, a := range long {
		for _, b := range long[i:] {
			got := rat.Between(a, b)
			wantNormal(t, got, "Between")
			low, high := a, b
			if rat.Compare(a, b) > 0 {
				low, high = b, a
			}
			if rat.Compare(low, got) > 0 || rat.Compare(got, high) > 0 || got.Long() > max(a.Long(), b.Long()) {
				t.Error("Between lies beyond both")
			}
			wantSame(t, rat.Between(b, a), got, "Between the other way round")
			if low.Sign() <= 0 && high.Sign() >= 0 {
				wantFrac(t, got, frac{0, 1}, "Between about 0")
			}
		}
	}
}
