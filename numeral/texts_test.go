package numeral_test

import (
	"strings"
	"testing"

	"tollbook/api"
	"tollbook/nat"
	"tollbook/numeral"
)

// P3.1 against the plain way.
func TestTexts(t *testing.T) {
	for _, base := range bases() {
		text := "0"
		for x := range uint64(3000) {
			wantText(t, nat.Small(x), base, text)
			text = next(text, base)
		}
		for _, l := range manyLists() {
			wantText(t, of(t, l...), base, plainText(l, base))
		}
	}
}

func TestTextExamples(t *testing.T) {
	wantText(t, nat.Small(255), 16, "ff")
	wantText(t, nat.Small(0), 2, "0")
	wantText(t, nat.Small(1295), 36, "zz")
	wantText(t, of(t, 0, 1), 10, "18446744073709551616")
	wantText(t, nat.Small(999), 10, "999")
	wantText(t, nat.Small(1000), 10, "1000")
	for _, c := range []struct {
		n    uint64
		base int
		want uint64
	}{{199, 10, 19}, {255, 2, 8}, {0, 7, 0}} {
		sum, e := numeral.Sum(nat.Small(c.n), c.base)
		if x, ok := sum.Uint64(); x != c.want || !ok || e != api.OK {
			t.Errorf("Sum(%d, %d) is %d, %d", c.n, c.base, x, e)
		}
	}
}

// About the powers of a base, where a digit is won: there the noughts within
// a text are many, and none may be lost or told ahead.
func TestTextsOfPowers(t *testing.T) {
	for _, base := range bases() {
		greatest := alphabet[base-1 : base]
		for k := range 260 {
			n := power(t, base, k)
			wantText(t, n, base, "1"+noughts(k))
			if k > 0 {
				wantText(t, less(t, n, 1), base, strings.Repeat(greatest, k))
				wantText(t, more(t, n, 1), base, "1"+noughts(k-1)+"1")
			}
		}
	}
}

func TestTextsOfTheLongestPowers(t *testing.T) {
	t.Parallel()
	for _, base := range bases() {
		k := lastPower(t, base)
		n := power(t, base, k)
		wantText(t, n, base, "1"+noughts(k))
		if text := textOf(t, less(t, n, 1), base); text != strings.Repeat(alphabet[base-1:base], k) {
			t.Errorf("Text of %d^%d - 1 is %s", base, k, short(text))
		}
	}
}

// Numbers of 4096 limbs: to powers of two as the bits say, to other bases by
// what is left over primes.
func TestTextsOfTheLongest(t *testing.T) {
	t.Parallel()
	for _, l := range longest() {
		n := of(t, l...)
		for width := 1; width <= 5; width++ {
			if want := bitText(l, width); textOf(t, n, 1<<width) != want {
				t.Errorf("Text of 4096 limbs to the base %d is wrong", 1<<width)
			}
		}
		for _, base := range basesFor(n) {
			wantLongText(t, n, base)
		}
	}
	for _, base := range bases() {
		wantLongText(t, of(t, longest()[3]...), base)
	}
	if digits, e := numeral.Digits(of(t, longest()[0]...), 10); digits != 78914 || e != api.OK {
		t.Errorf("Digits of the greatest number is %d, %d", digits, e)
	}
	wantText(t, of(t, longest()[0]...), 2, strings.Repeat("1", 64*most))
}

func wantLongText(t *testing.T, n nat.Nat, base int) {
	t.Helper()
	text := textOf(t, n, base)
	if text[0] == '0' || strings.Trim(text, alphabet[:base]) != "" || residuesOfText(text, base) != residuesOf(n.Limbs()) {
		t.Errorf("Text of a number of %d bits to the base %d is %s", n.Bits(), base, short(text))
	}
}

func TestNoBase(t *testing.T) {
	numbers := []nat.Nat{{}, nat.Small(5), nat.Small(m), of(t, longest()[0]...)}
	for _, base := range wrongBases() {
		for _, n := range numbers {
			if text, e := numeral.Text(n, base); text != "" || e != api.ErrBase {
				t.Errorf("Text to the base %d: %q, %d", base, short(text), e)
			}
			if digits, e := numeral.Digits(n, base); digits != 0 || e != api.ErrBase {
				t.Errorf("Digits to the base %d: %d, %d", base, digits, e)
			}
			if sum, e := numeral.Sum(n, base); !sum.IsZero() || e != api.ErrBase {
				t.Errorf("Sum to the base %d: %x, %d", base, sum.Limbs(), e)
			}
		}
	}
}
