package numeral_test

import (
	"testing"

	"tollbook/api"
	"tollbook/nat"
	"tollbook/numeral"
)

const lastTen = 78913

func wantNumber(t *testing.T, n nat.Nat, e api.Errno, want string, call string, args ...any) {
	t.Helper()
	if e != api.OK {
		t.Errorf("%s%v: error %d", call, args, e)
		return
	}
	if got := plainText(n.Limbs(), 10); got != want {
		t.Errorf("%s%v is %s, want %s", call, args, short(got), short(want))
	}
}

func wantError(t *testing.T, n nat.Nat, e, want api.Errno, call string, args ...any) {
	t.Helper()
	if !n.IsZero() || e != want {
		t.Errorf("%s%v is a number of %d bits, error %d, want 0 and error %d", call, args, n.Bits(), e, want)
	}
}

// wantSame is for long numbers, of which a text would be much.
func wantSame(t *testing.T, n nat.Nat, e api.Errno, want nat.Nat, call string, args ...any) {
	t.Helper()
	if nat.Compare(n, want) != 0 || e != api.OK {
		t.Errorf("%s%v is a number of %d bits, error %d, want one of %d bits", call, args, n.Bits(), e, want.Bits())
	}
}

func negatives() []int {
	return []int{-1, -2, -19, -lastTen, -1 << 32, minInt, minInt + 1}
}

// tooFar are powers at which ten is long.
func tooFar() []int {
	return []int{lastTen + 1, lastTen + 2, 87381, 87382, 1<<17 - 1, 1 << 17, 262143, 262144, 1 << 32, 1<<32 + 1, 1 << 62, maxInt - 1, maxInt}
}

func TestTen(t *testing.T) {
	for k := range 400 {
		n, e := numeral.Ten(k)
		wantNumber(t, n, e, "1"+noughts(k), "Ten", k)
	}
	for _, k := range []int{5000, 65535, 65536, lastTen - 1, lastTen} {
		n, e := numeral.Ten(k)
		if e != api.OK || residuesOf(n.Limbs()) != residuesOfText("1"+noughts(k), 10) {
			t.Errorf("Ten(%d): error %d", k, e)
		}
		wantText(t, n, 10, "1"+noughts(k))
	}
	for _, k := range tooFar() {
		n, e := numeral.Ten(k)
		wantError(t, n, e, api.ErrLong, "Ten", k)
	}
	for _, k := range negatives() {
		n, e := numeral.Ten(k)
		wantError(t, n, e, api.ErrArg, "Ten", k)
	}
}

func TestScale(t *testing.T) {
	for _, l := range manyLists() {
		for _, k := range []int{0, 1, 2, 9, 18, 19, 20, 100} {
			n, e := numeral.Scale(of(t, l...), k)
			want := plainText(l, 10) + noughts(k)
			if len(l) == 0 {
				want = "0"
			}
			wantNumber(t, n, e, want, "Scale", l, k)
		}
	}
	n, e := numeral.Scale(nat.Small(12), 2)
	wantNumber(t, n, e, "1200", "Scale", 12, 2)
}

func TestScaleAtTheLimit(t *testing.T) {
	greatest := of(t, longest()[0]...)
	n, e := numeral.Scale(nat.Small(1), lastTen)
	wantSame(t, n, e, power(t, 10, lastTen), "Scale", 1, lastTen)
	n, e = numeral.Scale(nat.Small(2), lastTen)
	wantError(t, n, e, api.ErrLong, "Scale", 2, lastTen)
	n, e = numeral.Scale(greatest, 0)
	wantSame(t, n, e, greatest, "Scale", "the greatest", 0)
	n, e = numeral.Scale(greatest, 1)
	wantError(t, n, e, api.ErrLong, "Scale", "the greatest", 1)

	// The greatest number that may be scaled so far, and the one behind it.
	for _, k := range []int{1, 2, 19, 20, 1000, 40000, lastTen - 1, lastTen} {
		quotient, _, e := nat.DivMod(greatest, power(t, 10, k))
		if e != api.OK {
			t.Fatal("DivMod", e)
		}
		want, e := nat.Mul(quotient, power(t, 10, k))
		if e != api.OK {
			t.Fatal("Mul", e)
		}
		n, e := numeral.Scale(quotient, k)
		wantSame(t, n, e, want, "Scale", "the greatest that may be", k)
		n, e = numeral.Scale(more(t, quotient, 1), k)
		wantError(t, n, e, api.ErrLong, "Scale", "one above the greatest that may be", k)
	}
}

func TestScaleRefuses(t *testing.T) {
	numbers := []nat.Nat{nat.Small(1), nat.Small(7), nat.Small(m), of(t, 0, 1), of(t, longest()[0]...)}
	for _, k := range tooFar() {
		for _, a := range numbers {
			n, e := numeral.Scale(a, k)
			wantError(t, n, e, api.ErrLong, "Scale", a.Bits(), k)
		}
		n, e := numeral.Scale(nat.Nat{}, k)
		wantNumber(t, n, e, "0", "Scale", 0, k)
	}
	for _, k := range negatives() {
		for _, a := range append(numbers, nat.Nat{}) {
			n, e := numeral.Scale(a, k)
			wantError(t, n, e, api.ErrArg, "Scale", a.Bits(), k)
		}
	}
	n, e := numeral.Scale(nat.Small(0), 1000000)
	wantNumber(t, n, e, "0", "Scale", 0, 1000000)
}

// wantCut: the text of the number is cut where the number is.
func wantCut(t *testing.T, n nat.Nat, text string, k int) {
	t.Helper()
	high, low := "0", text
	if k < len(text) {
		high, low = text[:len(text)-k], "0"+text[len(text)-k:]
	}
	quotient, rest, e := numeral.Cut(n, k)
	if e != api.OK {
		t.Errorf("Cut(%s, %d): error %d", short(text), k, e)
	}
	wantParsed(t, high, 10, quotient)
	wantParsed(t, low, 10, rest)
}

func TestCut(t *testing.T) {
	t.Parallel()
	for _, l := range manyLists() {
		text := plainText(l, 10)
		for k := range len(text) + 3 {
			wantCut(t, of(t, l...), text, k)
		}
	}
	for _, l := range manyLists()[:18] {
		for _, k := range append(tooFar(), 10000, lastTen) {
			wantCut(t, of(t, l...), plainText(l, 10), k)
		}
	}
	for _, c := range []struct {
		n    uint64
		k    int
		q, r string
	}{{12345, 2, "123", "45"}, {12345, 0, "12345", "0"}, {12345, 9, "0", "12345"}, {1005, 2, "10", "5"}, {7, maxInt, "0", "7"}} {
		quotient, rest, e := numeral.Cut(nat.Small(c.n), c.k)
		wantNumber(t, quotient, e, c.q, "Cut", c.n, c.k)
		wantNumber(t, rest, e, c.r, "Cut", c.n, c.k)
	}
}

func TestCutTheLongest(t *testing.T) {
	t.Parallel()
	for _, l := range longest() {
		n := of(t, l...)
		text := textOf(t, n, 10)
		for _, k := range []int{0, 1, 18, 19, 20, 9999, 40000, lastTen - 1, lastTen, lastTen + 1, 87381, 262144, maxInt} {
			wantCut(t, n, text, k)
		}
	}
	// The last power that is not long goes into the greatest number once.
	greatest := of(t, longest()[0]...)
	quotient, _, e := numeral.Cut(greatest, lastTen)
	wantNumber(t, quotient, e, "1", "Cut", "the greatest", lastTen)
	quotient, rest, e := numeral.Cut(greatest, lastTen+1)
	wantNumber(t, quotient, e, "0", "Cut", "the greatest", lastTen+1)
	wantSame(t, rest, e, greatest, "Cut", "the greatest", lastTen+1)
}

func TestCutRefuses(t *testing.T) {
	for _, k := range negatives() {
		for _, n := range []nat.Nat{{}, nat.Small(7), of(t, longest()[0]...)} {
			quotient, rest, e := numeral.Cut(n, k)
			wantError(t, quotient, e, api.ErrArg, "Cut", n.Bits(), k)
			wantError(t, rest, e, api.ErrArg, "Cut", n.Bits(), k)
		}
	}
}
