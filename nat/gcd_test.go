package nat_test

import (
	"testing"

	"tollbook/nat"
)

// P2.6 against the digits.
func TestGcd(t *testing.T) {
	lists := manyLists()[:60]
	for i, x := range lists {
		for _, y := range lists[i:] {
			want := digitsOf(x...).gcd(digitsOf(y...)).limbs()
			wantLimbs(t, nat.Gcd(of(t, x...), of(t, y...)), want, "Gcd", x, y)
			wantLimbs(t, nat.Gcd(of(t, y...), of(t, x...)), want, "Gcd", y, x)
		}
	}
}

// Pairs of which the highest bits alone tell a quotient that the numbers don't
// have: who trusts them one step too far goes wrong here.
func TestGcdWhereTheHighestBitsMislead(t *testing.T) {
	for _, pair := range [][2][]uint64{
		{{0xcbdd7354e408bcb5, 0x289178c166436af7}, {0, 0xf9b0b4c048f3c36c}},
		{{0, m}, {m, 0xf6316adf63eae35d}},
		{{m, 0x3ed62c8e7b6f6d14, 0xceb15cb5c83aebe2}, {0x2cc26f62f73e3538, m, 0xb8eb78eb8c9d3517}},
		{{0xb85a6681d5d852c6, m, 0xa08e188cec93b4bb}, {0x2be2b74b1e1db158, m}},
		{{0x4b8010e5630dd395, 0, 0x4b398d6d255100ba}, {0xb4464077a9fa7c8b, m, 0x8e290b7eb8e41317}},
		{{0, 0, m}, {0xc28beaf9b87e88d5, 0xd0c6d9cce41426cc, 0xb8f9c0807016fff4}},
		{{0xa5035852af84e89a, 0, 0x1748599b1af86ab8}, {0, 0x240d5afa82b67496, m}},
		{{m, 0, 0x7946923811407e8f}, {m, 0x790a6affd148baa5, 0x43809e008ce05a2b}},
		{{0xd81b63df2ef193f7, 0x5c196ad73a177703, m}, {m, 0xa114c3b2cc3bdfa7, 0x6dba7bf18051b8a}},
		{{0, 0, 0xdc7acf2c7b0188aa}, {0, 0xb2d9307ecc0ec404, 0x6e38aa53e8454b5a}},
		{{m, 0xd3e9751adb499e5a}, {m, 0xb482272efaf16bf7}},
	} {
		want := digitsOf(pair[0]...).gcd(digitsOf(pair[1]...)).limbs()
		wantLimbs(t, nat.Gcd(of(t, pair[0]...), of(t, pair[1]...)), want, "Gcd", pair)
	}
}

func TestGcdOfSmall(t *testing.T) {
	for a := range uint64(80) {
		for b := range uint64(80) {
			want := max(a, b)
			for d := min(a, b); d > 0; d-- {
				if a%d == 0 && b%d == 0 {
					want = d
					break
				}
			}
			wantLimbs(t, nat.Gcd(nat.Small(a), nat.Small(b)), digitsOf(want).limbs(), "Gcd", a, b)
		}
	}
}

// Numbers of some limbs, with a factor in both.
func TestGcdOfProducts(t *testing.T) {
	x := mixed(5)
	for i := range 80 {
		a, b := of(t, x.list(1+i%9)...), of(t, x.list(1+i%7)...)
		c := of(t, x.list(i%5)...)
		left, _ := nat.Mul(a, c)
		right, _ := nat.Mul(b, c)
		d, o := digitsOf(left.Limbs()...), digitsOf(right.Limbs()...)
		wantLimbs(t, nat.Gcd(left, right), d.gcd(o).limbs(), "Gcd", left.Limbs(), right.Limbs())
	}
}

// Gcd(2^m - 1, 2^n - 1) is 2^Gcd(m, n) - 1.
func TestGcdOfOnes(t *testing.T) {
	for _, c := range [][3]int{
		{262144, 131072, 131072}, {262144, 262143, 1}, {262144, 196608, 65536},
		{180180, 120120, 60060}, {100000, 64, 32}, {260015, 260000, 5}, {128, 65, 1}, {255255, 510, 255},
	} {
		a, b := of(t, ones(c[0])...), of(t, ones(c[1])...)
		wantLimbs(t, nat.Gcd(a, b), ones(c[2]), "Gcd of 2^n - 1", c)
		wantLimbs(t, nat.Gcd(b, a), ones(c[2]), "Gcd of 2^n - 1", c)
	}
}

// Neighbours in Fibonacci's row have quotients of 1 alone: no two numbers of
// their length take more steps.
func TestGcdOfFibonacci(t *testing.T) {
	a, b := nat.Small(0), nat.Small(1)
	for i := range 30000 {
		sum, e := nat.Add(a, b)
		wantOK(t, e, "Add", i)
		a, b = b, sum
		if i%997 == 0 || i == 29999 {
			wantLimbs(t, nat.Gcd(a, b), []uint64{1}, "Gcd of neighbours", i)
		}
	}
	c := of(t, repeated(m, 1000)...)
	left, e := nat.Mul(a, c)
	wantOK(t, e, "Mul")
	right, e := nat.Mul(b, c)
	wantOK(t, e, "Mul")
	wantLimbs(t, nat.Gcd(left, right), repeated(m, 1000), "Gcd of neighbours with a factor")
}

func TestGcdOfTheLongest(t *testing.T) {
	lists := longest()
	for i, l := range lists {
		a := of(t, l...)
		wantLimbs(t, nat.Gcd(a, nat.Nat{}), l, "Gcd with 0", i)
		wantLimbs(t, nat.Gcd(nat.Nat{}, a), l, "Gcd of 0", i)
		wantLimbs(t, nat.Gcd(a, a), l, "Gcd with itself", i)
		wantLimbs(t, nat.Gcd(a, nat.Small(1)), []uint64{1}, "Gcd with 1", i)
	}
	// What divides both and is nothing but a power of two.
	full, power := of(t, repeated(m, most)...), of(t, power2(64*most-1)...)
	wantLimbs(t, nat.Gcd(full, power), []uint64{1}, "Gcd of the greatest and a power of two")
	half := of(t, power2(100000)...)
	wantLimbs(t, nat.Gcd(power, half), power2(100000), "Gcd of powers of two")
}
