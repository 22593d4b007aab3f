package nat_test

import (
	"slices"
	"testing"

	"tollbook/api"
	"tollbook/nat"
)

// P2.1, and that noughts at the end of a list count nothing.
func TestMakeAndTell(t *testing.T) {
	for _, l := range append(manyLists(), longest()...) {
		for _, noughts := range []int{0, 1, 3, 5000} {
			n, e := nat.Of(append(slices.Clone(l), make([]uint64, noughts)...))
			wantOK(t, e, "Of", short(l), noughts)
			wantLimbs(t, n, l, "Of", short(l), noughts)
			wantTold(t, n, l)
		}
	}
}

// wantTold asks all that a number tells of itself.
func wantTold(t *testing.T, n nat.Nat, l []uint64) {
	t.Helper()
	bits := 0
	if len(l) > 0 {
		bits = 64 * (len(l) - 1)
		for top := l[len(l)-1]; top > 0; top /= 2 {
			bits++
		}
	}
	if n.Bits() != bits || n.IsZero() != (len(l) == 0) {
		t.Errorf("%x: Bits %d, IsZero %t", short(l), n.Bits(), n.IsZero())
	}
	small := digitsOf(slices.Concat(l, []uint64{0})[0])
	wantSmall := slices.Equal(small.limbs(), l)
	x, ok := n.Uint64()
	if ok != wantSmall || ok && !slices.Equal(digitsOf(x), small) || !ok && x != 0 {
		t.Errorf("%x: Uint64 %x, %t", short(l), x, ok)
	}
}

func TestSmall(t *testing.T) {
	for _, x := range []uint64{0, 1, 2, 1<<32 - 1, 1 << 32, 1 << 63, m - 1, m} {
		wantLimbs(t, nat.Small(x), digitsOf(x).limbs(), "Small", x)
		wantTold(t, nat.Small(x), digitsOf(x).limbs())
	}
}

func TestZeroValue(t *testing.T) {
	var none nat.Nat
	wantTold(t, none, nil)
	if nat.Compare(none, nat.Small(0)) != 0 || nat.Compare(none, nat.Small(1)) != -1 {
		t.Error("Compare")
	}
	sum, e := nat.Add(none, none)
	wantOK(t, e, "Add")
	wantLimbs(t, sum, nil, "Add")
	wantLimbs(t, nat.Root(none), nil, "Root")
	wantLimbs(t, nat.Gcd(none, none), nil, "Gcd")
	wantLimbs(t, nat.Gcd(none, nat.Small(6)), []uint64{6}, "Gcd")
}

func TestOfLong(t *testing.T) {
	for _, l := range [][]uint64{
		repeated(m, most+1), power2(64 * most), repeated(1, most+1), repeated(m, 3*most),
		append(power2(64*most), make([]uint64, 9000)...), power2(64 * 200000),
	} {
		n, e := nat.Of(l)
		wantRefused(t, n, e, api.ErrLong, "Of", short(l), len(l))
	}
	for _, l := range [][]uint64{make([]uint64, 200000), nil, {}, {0}} {
		n, e := nat.Of(l)
		wantOK(t, e, "Of", len(l))
		wantLimbs(t, n, nil, "Of", len(l))
	}
	n, e := nat.Of(append(repeated(m, most), make([]uint64, 60000)...))
	wantOK(t, e, "Of with noughts")
	wantLimbs(t, n, repeated(m, most), "Of with noughts")
}

// P2.2 and P2.3 at pairs of numbers, against the digits.
func TestPairs(t *testing.T) {
	lists := manyLists()
	for _, x := range lists {
		for _, y := range lists {
			a, b := of(t, x...), of(t, y...)
			d, o := digitsOf(x...), digitsOf(y...)
			if got := nat.Compare(a, b); got != d.compare(o) {
				t.Errorf("Compare(%x, %x) is %d", x, y, got)
			}
			sum, e := nat.Add(a, b)
			wantOK(t, e, "Add", x, y)
			wantLimbs(t, sum, d.plus(o).limbs(), "Add", x, y)
			product, e := nat.Mul(a, b)
			wantOK(t, e, "Mul", x, y)
			wantLimbs(t, product, d.times(o).limbs(), "Mul", x, y)
			wantSub(t, x, y)
			wantDivMod(t, x, y)
		}
	}
}

func wantSub(t *testing.T, x, y []uint64) {
	t.Helper()
	rest, e := nat.Sub(of(t, x...), of(t, y...))
	if digitsOf(x...).compare(digitsOf(y...)) < 0 {
		wantRefused(t, rest, e, api.ErrBelow, "Sub", x, y)
		return
	}
	wantOK(t, e, "Sub", x, y)
	wantLimbs(t, rest, digitsOf(x...).minus(digitsOf(y...)).limbs(), "Sub", x, y)
}

func wantDivMod(t *testing.T, x, y []uint64) {
	t.Helper()
	quotient, rest, e := nat.DivMod(of(t, x...), of(t, y...))
	if len(y) == 0 {
		wantRefused(t, quotient, e, api.ErrNought, "DivMod", x, y)
		wantRefused(t, rest, e, api.ErrNought, "DivMod", x, y)
		return
	}
	q, r := digitsOf(x...).over(digitsOf(y...))
	wantOK(t, e, "DivMod", x, y)
	wantLimbs(t, quotient, q.limbs(), "DivMod", x, y)
	wantLimbs(t, rest, r.limbs(), "what is left of DivMod", x, y)
}

// All lists of these limbs: among them are many at which a place of the
// quotient is guessed one or two too great, from one limb, and from two.
func TestQuotientsGuessedTooGreat(t *testing.T) {
	limbs := []uint64{0, 1, 1<<63 - 1, 1 << 63, m}
	for _, y := range listsOf(limbs, 3) {
		if len(y) < 2 {
			continue
		}
		for _, x := range listsOf(limbs, 5) {
			wantDivided(t, x, y)
		}
	}
	for _, pair := range [][2][]uint64{
		{{3, 0, 1 << 63}, {1, 1 << 63}},
		{{0, m - 1, 1 << 63}, {m, 1 << 63}},
		{{0, 0, 1 << 63, 1<<63 - 1}, {1, 0, 1 << 63}},
		{{3, 0, 1 << 63}, {1, 0, 1 << 61}},
		{{0, 0, 1, 1 << 63}, {m, 0, 1 << 63}},
		{{m, m, m, m - 1, m}, {m, m, m}},
	} {
		wantDivMod(t, pair[0], pair[1])
	}
}

// listsOf are all trimmed lists of at most that many of the limbs.
func listsOf(limbs []uint64, longest int) [][]uint64 {
	all := [][]uint64{nil}
	lists := all
	for range longest {
		var longer [][]uint64
		for _, l := range lists {
			for _, x := range limbs {
				longer = append(longer, append(slices.Clone(l), x))
			}
		}
		lists = longer
		for _, l := range lists {
			if l[len(l)-1] != 0 {
				all = append(all, l)
			}
		}
	}
	return all
}

// wantDivided holds the quotient against the product, which is held against the digits elsewhere.
func wantDivided(t *testing.T, x, y []uint64) {
	t.Helper()
	a, b := of(t, x...), of(t, y...)
	quotient, rest, e := nat.DivMod(a, b)
	wantOK(t, e, "DivMod", short(x), short(y))
	if nat.Compare(rest, b) >= 0 {
		t.Errorf("DivMod(%x, %x) leaves %x", short(x), short(y), short(rest.Limbs()))
	}
	product, e := nat.Mul(quotient, b)
	wantOK(t, e, "Mul", short(x), short(y))
	sum, e := nat.Add(product, rest)
	wantOK(t, e, "Add", short(x), short(y))
	wantLimbs(t, sum, x, "quotient * divisor + what is left of ", short(x), short(y))
}

// Numbers of many limbs, by what is left of them over primes.
func TestManyLimbs(t *testing.T) {
	x := mixed(3)
	for _, n := range []int{1, 2, 33, 100, 1000, 2047, 2048, 4000, most} {
		for _, k := range []int{1, 2, 31, 500, 2048, 4095, most} {
			l, o := x.list(n), x.list(k)
			wantDivided(t, l, o)
			a, b := of(t, l...), of(t, o...)
			if n+k > most {
				continue
			}
			product, e := nat.Mul(a, b)
			wantOK(t, e, "Mul", n, k)
			if residuesOf(product.Limbs()) != residuesOf(l).times(residuesOf(o)) {
				t.Errorf("Mul of %d and %d limbs is wrong", n, k)
			}
			sum, e := nat.Add(a, b)
			wantOK(t, e, "Add", n, k)
			if residuesOf(sum.Limbs()) != residuesOf(l).plus(residuesOf(o)) {
				t.Errorf("Add of %d and %d limbs is wrong", n, k)
			}
		}
	}
}

// The longest numbers may be divided by all others, themselves too.
func TestDivModOfTheLongest(t *testing.T) {
	lists := append(longest(), edges()[1:]...)
	for _, x := range longest() {
		for _, y := range lists {
			wantDivided(t, x, y)
		}
	}
	// Divisors longer than what is divided go into it no time.
	for _, y := range longest() {
		for _, x := range edges() {
			quotient, rest, e := nat.DivMod(of(t, x...), of(t, y...))
			wantOK(t, e, "DivMod", x, short(y))
			wantLimbs(t, quotient, nil, "DivMod", x, short(y))
			wantLimbs(t, rest, x, "what is left of DivMod", x, short(y))
		}
	}
}

func TestSumsAtTheLimit(t *testing.T) {
	full, one := of(t, repeated(m, most)...), nat.Small(1)
	sum, e := nat.Add(full, one)
	wantRefused(t, sum, e, api.ErrLong, "Add(full, 1)")
	sum, e = nat.Add(one, full)
	wantRefused(t, sum, e, api.ErrLong, "Add(1, full)")
	sum, e = nat.Add(full, full)
	wantRefused(t, sum, e, api.ErrLong, "Add(full, full)")
	sum, e = nat.Add(full, nat.Small(0))
	wantOK(t, e, "Add(full, 0)")
	wantLimbs(t, sum, repeated(m, most), "Add(full, 0)")

	half := of(t, power2(64*most-1)...)
	sum, e = nat.Add(half, half)
	wantRefused(t, sum, e, api.ErrLong, "Add(half, half)")
	below, e := nat.Sub(half, one)
	wantOK(t, e, "Sub(half, 1)")
	wantLimbs(t, below, ones(64*most-1), "Sub(half, 1)")
	sum, e = nat.Add(half, below)
	wantOK(t, e, "Add(half, half - 1)")
	wantLimbs(t, sum, repeated(m, most), "Add(half, half - 1)")
	rest, e := nat.Sub(below, half)
	wantRefused(t, rest, e, api.ErrBelow, "Sub(half - 1, half)")
	rest, e = nat.Sub(full, full)
	wantOK(t, e, "Sub(full, full)")
	wantLimbs(t, rest, nil, "Sub(full, full)")
}

func TestProductsAtTheLimit(t *testing.T) {
	const half = 32 * most
	for _, c := range []struct {
		a, b, want []uint64
		err        api.Errno
	}{
		{power2(half), power2(half - 1), power2(2*half - 1), api.OK},
		{power2(half), power2(half), nil, api.ErrLong},
		{power2(2*half - 1), []uint64{1}, power2(2*half - 1), api.OK},
		{power2(2*half - 1), []uint64{2}, nil, api.ErrLong},
		{repeated(m, most), []uint64{1}, repeated(m, most), api.OK},
		{repeated(m, most), []uint64{2}, nil, api.ErrLong},
		{repeated(m, most), nil, nil, api.OK},
		{repeated(m, most), repeated(m, most), nil, api.ErrLong},
		{ones(half + 1), ones(half), nil, api.ErrLong},
		// (2^k - 1)(2^k + 1) is the greatest number; 2^k + 1 twice is too much.
		{ones(half), append([]uint64{1}, power2(half-64)...), repeated(m, most), api.OK},
		{append([]uint64{1}, power2(half-64)...), append([]uint64{1}, power2(half-64)...), nil, api.ErrLong},
	} {
		for _, pair := range [][2][]uint64{{c.a, c.b}, {c.b, c.a}} {
			product, e := nat.Mul(of(t, pair[0]...), of(t, pair[1]...))
			if e != c.err {
				t.Errorf("Mul(%x, %x): error %d, want %d", short(pair[0]), short(pair[1]), e, c.err)
			}
			wantLimbs(t, product, c.want, "Mul", short(pair[0]), short(pair[1]))
		}
	}
}
