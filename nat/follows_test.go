package nat_test

import (
	"testing"

	"tollbook/api"
	"tollbook/nat"
)

func add(t *testing.T, a, b nat.Nat) nat.Nat {
	t.Helper()
	sum, e := nat.Add(a, b)
	wantOK(t, e, "Add")
	return sum
}

func mul(t *testing.T, a, b nat.Nat) nat.Nat {
	t.Helper()
	product, e := nat.Mul(a, b)
	wantOK(t, e, "Mul")
	return product
}

func pow(t *testing.T, a nat.Nat, n int) nat.Nat {
	t.Helper()
	power, e := nat.Pow(a, n)
	wantOK(t, e, "Pow")
	return power
}

func wantSame(t *testing.T, a, b nat.Nat, what string) {
	t.Helper()
	if nat.Compare(a, b) != 0 {
		t.Errorf("%s: %x is not %x", what, short(a.Limbs()), short(b.Limbs()))
	}
}

// P2.7 at numbers of all lengths that leave room for the products.
func TestFollows(t *testing.T) {
	x := mixed(7)
	lengths := []int{0, 1, 1, 2, 3, 5, 9, 30, 200, 1000}
	for i := range 120 {
		a := of(t, x.list(lengths[i%10])...)
		b := of(t, x.list(lengths[i/3%10])...)
		c := of(t, x.list(lengths[i/7%10])...)
		wantFollows(t, a, b, c)
	}
}

func wantFollows(t *testing.T, a, b, c nat.Nat) {
	t.Helper()
	wantSame(t, of(t, a.Limbs()...), a, "Of(n.Limbs())")

	sum := add(t, a, b)
	rest, e := nat.Sub(sum, b)
	wantOK(t, e, "Sub(Add(a, b), b)")
	wantSame(t, rest, a, "Sub(Add(a, b), b)")
	wantSame(t, add(t, b, a), sum, "a + b")

	wantSame(t, mul(t, a, b), mul(t, b, a), "a * b")
	wantSame(t, mul(t, a, add(t, b, c)), add(t, mul(t, a, b), mul(t, a, c)), "a * (b + c)")

	wantRoot(t, a)
	wantRoot(t, mul(t, a, b))

	gcd := nat.Gcd(a, b)
	if !gcd.IsZero() {
		wantDivides(t, gcd, a)
		wantDivides(t, gcd, b)
	}
	wantSame(t, nat.Gcd(mul(t, a, c), mul(t, b, c)), mul(t, gcd, c), "Gcd(a * c, b * c)")
}

func wantDivides(t *testing.T, d, a nat.Nat) {
	t.Helper()
	_, rest, e := nat.DivMod(a, d)
	if e != api.OK || !rest.IsZero() {
		t.Errorf("%x leaves something of %x", short(d.Limbs()), short(a.Limbs()))
	}
}

// Whatever divides a and b divides Gcd(a, b).
func TestDivisors(t *testing.T) {
	x := mixed(8)
	for i := range 60 {
		d := of(t, x.list(1+i%40)...)
		a := mul(t, d, of(t, x.list(1+i%9)...))
		b := mul(t, d, of(t, x.list(1+i%17)...))
		wantDivides(t, d, nat.Gcd(a, b))
	}
}

// a^(m + n) is a^m * a^n.
func TestPowersAdd(t *testing.T) {
	x := mixed(9)
	for i := range 30 {
		a := of(t, x.list(i%6)...)
		for _, k := range []int{0, 1, 2, 3, 8, 31, 100} {
			for _, n := range []int{0, 1, 7, 64} {
				wantSame(t, pow(t, a, k+n), mul(t, pow(t, a, k), pow(t, a, n)), "a^(m + n)")
			}
		}
	}
	wantSame(t, pow(t, nat.Small(10), 78913), mul(t, pow(t, nat.Small(10), 70000), pow(t, nat.Small(10), 8913)), "10^78913")
}
