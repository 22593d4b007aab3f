package numeral_test

import (
	"testing"

	"tollbook/api"
	"tollbook/nat"
	"tollbook/numeral"
)

// someNumbers are short ones, long ones, and such as lie between.
func someNumbers(t *testing.T) []nat.Nat {
	t.Helper()
	numbers := []nat.Nat{}
	for _, l := range append(manyLists(), longest()...) {
		numbers = append(numbers, of(t, l...))
	}
	x := mixed(3)
	for _, n := range []int{30, 31, 63, 64, 65, 100, 128, 500, 1024, 2047, 2048, 2049, 3000} {
		numbers = append(numbers, of(t, x.list(n)...))
	}
	return numbers
}

// P3.4: what is told is read again, with noughts ahead and without.
func TestThereAndBack(t *testing.T) {
	t.Parallel()
	for i, n := range someNumbers(t) {
		for _, base := range basesFor(n) {
			text := textOf(t, n, base)
			wantParsed(t, text, base, n)
			for _, ahead := range []int{1, 7 + i, api.MaxDigits - len(text)} {
				if ahead+len(text) <= api.MaxDigits {
					wantParsed(t, noughts(ahead)+text, base, n)
				}
			}
		}
	}
}

// P3.4: of d digits is what is at least base^(d - 1) and below base^d.
func TestDigitsBound(t *testing.T) {
	t.Parallel()
	for _, n := range someNumbers(t) {
		for _, base := range basesFor(n) {
			digits, e := numeral.Digits(n, base)
			if text := textOf(t, n, base); e != api.OK || digits != len(text) {
				t.Errorf("Digits to the base %d is %d, %d, of %d", base, digits, e, len(text))
			}
			if digits < 1 {
				t.Fatalf("no digits of a number of %d bits", n.Bits())
			}
			if !n.IsZero() && nat.Compare(n, power(t, base, digits-1)) < 0 {
				t.Errorf("%d digits to the base %d are too many", digits, base)
			}
			above, e := nat.Pow(nat.Small(uint64(base)), digits)
			if e == api.OK && nat.Compare(n, above) >= 0 {
				t.Errorf("%d digits to the base %d are too few", digits, base)
			}
		}
	}
}

// P3.4: what is scaled is cut again.
func TestCutOfScale(t *testing.T) {
	t.Parallel()
	for _, n := range someNumbers(t) {
		for _, k := range []int{0, 1, 2, 18, 19, 20, 77, 4096, 30000, lastTen, maxInt} {
			scaled, e := numeral.Scale(n, k)
			if e == api.ErrLong {
				continue
			}
			quotient, rest, cutErr := numeral.Cut(scaled, k)
			if e != api.OK || cutErr != api.OK || nat.Compare(quotient, n) != 0 || !rest.IsZero() {
				t.Errorf("Cut of Scale of %d bits by %d: errors %d, %d", n.Bits(), k, e, cutErr)
			}
		}
	}
}

// P3.4: a greater number has not fewer digits.
func TestDigitsRise(t *testing.T) {
	for _, base := range bases() {
		for _, a := range someNumbers(t)[:len(manyLists())] {
			for _, b := range []nat.Nat{nat.Small(0), nat.Small(36), of(t, 0, 1), of(t, repeated(m, 9)...)} {
				wantRise(t, a, b, base)
			}
		}
		for k := 1; k < 80; k++ {
			n := power(t, base, k)
			wantRise(t, less(t, n, 1), n, base)
			wantRise(t, n, more(t, n, 1), base)
		}
	}
}

// The same of numbers of more and more limbs, up to the greatest.
func TestDigitsRiseFar(t *testing.T) {
	t.Parallel()
	last := nat.Nat{}
	for _, n := range []int{1, 2, 3, 100, most / 2, most - 1, most} {
		a, b := of(t, append(make([]uint64, n-1), 1)...), of(t, repeated(m, n)...)
		for _, base := range basesFor(b) {
			wantRise(t, last, a, base)
			wantRise(t, a, b, base)
		}
		last = b
	}
}

func wantRise(t *testing.T, a, b nat.Nat, base int) {
	t.Helper()
	first, _ := numeral.Digits(a, base)
	second, _ := numeral.Digits(b, base)
	if order := nat.Compare(a, b); order < 0 && first > second || order > 0 && first < second {
		t.Errorf("numbers of %d and %d bits have %d and %d digits to the base %d", a.Bits(), b.Bits(), first, second, base)
	}
}
