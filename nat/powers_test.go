package nat_test

import (
	"testing"

	"tollbook/api"
	"tollbook/nat"
)

// P2.4 at few limbs, against the digits.
func TestMoves(t *testing.T) {
	for _, l := range manyLists() {
		for _, n := range []int{0, 1, 2, 31, 63, 64, 65, 127, 128, 200, 1000} {
			by := digitsOf(power2(n)...)
			left, e := nat.Left(of(t, l...), n)
			wantOK(t, e, "Left", l, n)
			wantLimbs(t, left, digitsOf(l...).times(by).limbs(), "Left", l, n)
			right, e := nat.Right(of(t, l...), n)
			quotient, _ := digitsOf(l...).over(by)
			wantOK(t, e, "Right", l, n)
			wantLimbs(t, right, quotient.limbs(), "Right", l, n)
		}
	}
}

func TestMovesAtTheLimit(t *testing.T) {
	const bits = 64 * most
	for _, c := range []struct {
		l    []uint64
		n    int
		want []uint64
		err  api.Errno
	}{
		{[]uint64{1}, bits - 1, power2(bits - 1), api.OK},
		{[]uint64{1}, bits, nil, api.ErrLong},
		{[]uint64{3}, bits - 2, append(make([]uint64, most-1), 3<<62), api.OK},
		{[]uint64{3}, bits - 1, nil, api.ErrLong},
		{[]uint64{1}, maxInt, nil, api.ErrLong},
		{[]uint64{1}, maxInt - 63, nil, api.ErrLong},
		{nil, maxInt, nil, api.OK},
		{nil, bits, nil, api.OK},
		{repeated(m, most), 0, repeated(m, most), api.OK},
		{repeated(m, most), 1, nil, api.ErrLong},
		{repeated(m, most), maxInt, nil, api.ErrLong},
		{repeated(m, most-1), 64, append([]uint64{0}, repeated(m, most-1)...), api.OK},
		{repeated(m, most-1), 65, nil, api.ErrLong},
		{[]uint64{1}, -1, nil, api.ErrArg},
		{nil, -1, nil, api.ErrArg},
		{[]uint64{1}, -maxInt - 1, nil, api.ErrArg},
		{repeated(m, most), -1, nil, api.ErrArg},
	} {
		got, e := nat.Left(of(t, c.l...), c.n)
		if e != c.err {
			t.Errorf("Left(%x, %d): error %d, want %d", short(c.l), c.n, e, c.err)
		}
		wantLimbs(t, got, c.want, "Left", short(c.l), c.n)
	}
}

func TestRightAtTheLimit(t *testing.T) {
	const bits = 64 * most
	for _, c := range []struct {
		l    []uint64
		n    int
		want []uint64
		err  api.Errno
	}{
		{repeated(m, most), bits - 1, []uint64{1}, api.OK},
		{repeated(m, most), bits, nil, api.OK},
		{repeated(m, most), bits + 1, nil, api.OK},
		{repeated(m, most), maxInt, nil, api.OK},
		{repeated(m, most), 64, repeated(m, most-1), api.OK},
		{power2(bits - 1), bits - 64, []uint64{1 << 63}, api.OK},
		{[]uint64{7}, maxInt, nil, api.OK},
		{nil, maxInt, nil, api.OK},
		{nil, -1, nil, api.ErrArg},
		{[]uint64{7}, -1, nil, api.ErrArg},
		{repeated(m, most), -maxInt - 1, nil, api.ErrArg},
	} {
		got, e := nat.Right(of(t, c.l...), c.n)
		if e != c.err {
			t.Errorf("Right(%x, %d): error %d, want %d", short(c.l), c.n, e, c.err)
		}
		wantLimbs(t, got, c.want, "Right", short(c.l), c.n)
	}
}

// P2.5 at few limbs, against the digits.
func TestPowers(t *testing.T) {
	for _, l := range manyLists() {
		for n := range 18 {
			power, e := nat.Pow(of(t, l...), n)
			wantOK(t, e, "Pow", l, n)
			wantLimbs(t, power, digitsOf(l...).power(n).limbs(), "Pow", l, n)
		}
	}
}

func TestPowersAtTheLimit(t *testing.T) {
	const bits = 64 * most
	for _, c := range []struct {
		l    []uint64
		n    int
		want []uint64
		err  api.Errno
	}{
		{nil, 0, []uint64{1}, api.OK},
		{nil, 1, nil, api.OK},
		{nil, maxInt, nil, api.OK},
		{[]uint64{1}, 0, []uint64{1}, api.OK},
		{[]uint64{1}, maxInt, []uint64{1}, api.OK},
		{[]uint64{2}, bits - 1, power2(bits - 1), api.OK},
		{[]uint64{2}, bits, nil, api.ErrLong},
		{[]uint64{2}, maxInt, nil, api.ErrLong},
		{[]uint64{0, 1}, most - 1, power2(bits - 64), api.OK},
		{[]uint64{0, 1}, most, nil, api.ErrLong},
		{[]uint64{m}, most + 1, nil, api.ErrLong},
		{power2(100000), 2, power2(200000), api.OK},
		{power2(50000), 5, power2(250000), api.OK},
		{power2(bits/2 - 1), 2, power2(bits - 2), api.OK},
		{power2(bits / 2), 2, nil, api.ErrLong},
		{power2(bits - 1), 1, power2(bits - 1), api.OK},
		{power2(bits - 1), 2, nil, api.ErrLong},
		{repeated(m, most), 0, []uint64{1}, api.OK},
		{repeated(m, most), 1, repeated(m, most), api.OK},
		{repeated(m, most), 2, nil, api.ErrLong},
		{repeated(m, most), maxInt, nil, api.ErrLong},
		{nil, -1, nil, api.ErrArg},
		{[]uint64{1}, -1, nil, api.ErrArg},
		{[]uint64{2}, -maxInt - 1, nil, api.ErrArg},
		{repeated(m, most), -2, nil, api.ErrArg},
	} {
		got, e := nat.Pow(of(t, c.l...), c.n)
		if e != c.err {
			t.Errorf("Pow(%x, %d): error %d, want %d", short(c.l), c.n, e, c.err)
		}
		wantLimbs(t, got, c.want, "Pow", short(c.l), c.n)
	}
}

// The last powers that are not long, by what is left of them over primes, and
// the first that are.
func TestLastPowers(t *testing.T) {
	for _, c := range []struct {
		a uint64
		n int
	}{{3, 165394}, {10, 78913}, {m, most}, {1<<32 + 1, 2*most - 1}} {
		power, e := nat.Pow(nat.Small(c.a), c.n)
		wantOK(t, e, "Pow", c.a, c.n)
		if residuesOf(power.Limbs()) != residuesOf([]uint64{c.a}).power(c.n) {
			t.Errorf("Pow(%d, %d) is wrong", c.a, c.n)
		}
		power, e = nat.Pow(nat.Small(c.a), c.n+1)
		wantRefused(t, power, e, api.ErrLong, "Pow", c.a, c.n+1)
	}
}

func TestRoots(t *testing.T) {
	for a := range uint64(2000) {
		wantLimbs(t, nat.Root(nat.Small(a)), digitsOf(a).root().limbs(), "Root", a)
	}
	for _, l := range manyLists() {
		d := digitsOf(l...)
		wantLimbs(t, nat.Root(of(t, l...)), d.root().limbs(), "Root", l)
		// About the square: just below it the root is one less.
		square := d.times(d)
		wantLimbs(t, nat.Root(of(t, square.limbs()...)), l, "Root of the square", l)
		next := square.plus(digits{1})
		wantLimbs(t, nat.Root(of(t, next.limbs()...)), next.root().limbs(), "Root of the square and 1", l)
		if len(l) == 0 {
			continue
		}
		below := square.minus(digits{1})
		wantLimbs(t, nat.Root(of(t, below.limbs()...)), d.minus(digits{1}).limbs(), "Root of the square less 1", l)
		last := square.plus(d).plus(d)
		wantLimbs(t, nat.Root(of(t, last.limbs()...)), l, "Root of the last with this root", l)
	}
}

func TestRootsOfTheLongest(t *testing.T) {
	wantLimbs(t, nat.Root(of(t, repeated(m, most)...)), repeated(m, most/2), "Root of the greatest")
	wantLimbs(t, nat.Root(of(t, power2(64*most-2)...)), power2(32*most-1), "Root of a power")
	for _, l := range longest() {
		wantRoot(t, of(t, l...))
	}
	// The greatest square, and about it.
	root := of(t, repeated(m, most/2)...)
	square, e := nat.Mul(root, root)
	wantOK(t, e, "Mul")
	wantLimbs(t, nat.Root(square), repeated(m, most/2), "Root of the greatest square")
	below, e := nat.Sub(square, nat.Small(1))
	wantOK(t, e, "Sub")
	wantLimbs(t, nat.Root(below), append([]uint64{m - 1}, repeated(m, most/2-1)...), "Root of one below it")
}

// wantRoot: root^2 <= a < (root + 1)^2, which is a - root^2 <= 2 * root.
func wantRoot(t *testing.T, a nat.Nat) {
	t.Helper()
	root := nat.Root(a)
	square, e := nat.Mul(root, root)
	wantOK(t, e, "Mul of the root", short(a.Limbs()))
	rest, e := nat.Sub(a, square)
	wantOK(t, e, "Sub of the square", short(a.Limbs()))
	twice, e := nat.Left(root, 1)
	wantOK(t, e, "Left of the root", short(a.Limbs()))
	if nat.Compare(rest, twice) > 0 {
		t.Errorf("Root(%x) is too small", short(a.Limbs()))
	}
}
