package whole_test

import (
	"testing"

	"tollbook/api"
	"tollbook/whole"
)

// someNumbers are short ones and long ones, on both sides of 0.
func someNumbers(t *testing.T) []whole.Int {
	t.Helper()
	numbers := longNumbers(t)
	for _, p := range somePairs(t) {
		numbers = append(numbers, p.got)
	}
	x := mixed(6)
	for i, n := range []int{30, 64, 65, 128, 700, 1024, 1365, 2047, 2048, 2049, 3000} {
		numbers = append(numbers, whole.New(i%2 == 0, far(t, x.list(n)...)))
	}
	return numbers
}

// P4.7: what is told is read again.
func TestThereAndBack(t *testing.T) {
	t.Parallel()
	for _, n := range someNumbers(t) {
		wantParsed(t, whole.Text(n), n)
	}
}

// P4.7 at numbers of all lengths: where one side is too far from 0, so is the
// other one.
func TestFromBothSides(t *testing.T) {
	t.Parallel()
	numbers := someNumbers(t)
	for i, a := range numbers {
		for _, b := range numbers[i%3:] {
			sum, e := whole.Add(a, b)
			other, f := whole.Add(b, a)
			if e != f {
				t.Errorf("a + b: errors %d, %d", e, f)
			}
			wantSame(t, sum, other, "a + b")
			if e == api.OK {
				back, e := whole.Sub(sum, b)
				wantOK(t, e, "Sub(Add(a, b), b)")
				wantSame(t, back, a, "Sub(Add(a, b), b)")
			}
			less, e := whole.Sub(a, b)
			turned, f := whole.Sub(b, a)
			if e != f {
				t.Errorf("a - b: errors %d, %d", e, f)
			}
			wantSame(t, less, turned.Neg(), "a - b")
		}
	}
}

// P4.7: products are the same from both sides.
func TestProductsFromBothSides(t *testing.T) {
	t.Parallel()
	numbers := someNumbers(t)
	for i, a := range numbers {
		for _, b := range numbers[i:] {
			product, e := whole.Mul(a, b)
			other, f := whole.Mul(b, a)
			if e != f {
				t.Errorf("a * b: errors %d, %d", e, f)
			}
			wantSame(t, product, other, "a * b")
			turned, f := whole.Mul(a.Neg(), b)
			if e != f {
				t.Errorf("-a * b: errors %d, %d", e, f)
			}
			wantSame(t, product, turned.Neg(), "-a * b")
		}
	}
}

// P4.7: a * (b + c) is a * b + a * c, where none of these is too far from 0.
func TestDistributes(t *testing.T) {
	t.Parallel()
	x := mixed(7)
	lengths := []int{0, 1, 1, 2, 3, 5, 9, 30, 200, 1000, 2047}
	for i := range 200 {
		of := func(n int) whole.Int { return whole.New(x.next()%2 == 0, far(t, x.list(lengths[n%11])...)) }
		a, b, c := of(i), of(i/3), of(i/7)
		sum, e := whole.Add(b, c)
		wantOK(t, e, "b + c")
		left, e := whole.Mul(a, sum)
		wantOK(t, e, "a * (b + c)")
		first, e := whole.Mul(a, b)
		wantOK(t, e, "a * b")
		second, e := whole.Mul(a, c)
		wantOK(t, e, "a * c")
		right, e := whole.Add(first, second)
		wantOK(t, e, "a * b + a * c")
		wantSame(t, left, right, "a * (b + c)")
	}
}

// P4.7: q * b + r is a.
func TestMadeUpAgain(t *testing.T) {
	t.Parallel()
	numbers := someNumbers(t)
	for i, a := range numbers {
		for _, b := range numbers[i%2:] {
			if b.Sign() == 0 {
				continue
			}
			quotient, rest, e := whole.DivMod(a, b)
			wantOK(t, e, "DivMod")
			product, e := whole.Mul(quotient, b)
			if e == api.ErrLong {
				// Rounded down, it may lie just beyond a: one b nearer it does not.
				quotient, _ = whole.Add(quotient, whole.Small(1))
				rest, _ = whole.Sub(rest, b)
				product, e = whole.Mul(quotient, b)
			}
			wantOK(t, e, "q * b")
			sum, e := whole.Add(product, rest)
			wantOK(t, e, "q * b + r")
			wantSame(t, sum, a, "q * b + r")
		}
	}
}
