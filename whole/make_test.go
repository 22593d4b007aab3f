package whole_test

import (
	"slices"
	"testing"

	"tollbook/api"
	"tollbook/nat"
	"tollbook/whole"
)

// P4.1: New, Sign, Abs, Neg, of numbers of all lengths.
func TestNew(t *testing.T) {
	for _, l := range append(manyLists(), longest()...) {
		sign := min(len(l), 1)
		above, below := whole.New(false, far(t, l...)), whole.New(true, far(t, l...))
		wantNumber(t, above, sign, l, "New(false, n)")
		wantNumber(t, below, -sign, l, "New(true, n)")
		wantNumber(t, above.Neg(), -sign, l, "Neg of n")
		wantNumber(t, below.Neg(), sign, l, "Neg of -n")
		wantNumber(t, below.Neg().Neg(), -sign, l, "Neg of Neg of -n")
		wantNumber(t, whole.New(true, below.Abs()), -sign, l, "New(true, Abs of -n)")
		wantNumber(t, whole.New(false, below.Abs()), sign, l, "New(false, Abs of -n)")
	}
}

// There is one 0, however it comes about.
func TestOneNought(t *testing.T) {
	least, _ := whole.Add(whole.Small(-5), whole.Small(5))
	none, _ := whole.Mul(whole.Small(-4), whole.Int{})
	quotient, rest, _ := whole.DivMod(whole.Int{}, whole.Small(-9))
	for i, z := range []whole.Int{
		{}, whole.Small(0), whole.New(false, nat.Nat{}), whole.New(true, nat.Nat{}), whole.New(true, nat.Small(0)),
		whole.Int{}.Neg(), whole.New(true, nat.Small(0)).Neg(), least, least.Neg(), none, none.Neg(), quotient, rest, quotient.Neg(),
	} {
		wantNumber(t, z, 0, nil, "0")
		if x, e := z.Int64(); x != 0 || e != api.OK || whole.Text(z) != "0" {
			t.Errorf("0 number %d: Int64 %d, %d, Text %s", i, x, e, whole.Text(z))
		}
		if whole.Compare(z, whole.Int{}) != 0 || whole.Compare(whole.Int{}, z) != 0 || whole.Compare(z, whole.Small(-1)) != 1 || whole.Compare(z, whole.Small(1)) != -1 {
			t.Errorf("0 number %d: Compare", i)
		}
	}
}

// edgeNumbers are int64s about 0, about powers of two, and at both ends.
func edgeNumbers() []int64 {
	numbers := []int64{}
	for x := int64(-300); x <= 300; x++ {
		numbers = append(numbers, x)
	}
	for i := 9; i < 63; i++ {
		for x := int64(-2); x <= 2; x++ {
			numbers = append(numbers, 1<<i+x, -1<<i+x)
		}
	}
	for x := range int64(4) {
		numbers = append(numbers, maxInt-x, minInt+x)
	}
	mix := mixed(3)
	for range 200 {
		numbers = append(numbers, int64(mix.next()), int64(mix.next())>>(mix.next()%64))
	}
	return numbers
}

// P4.1: Small and Int64, there and back.
func TestSmall(t *testing.T) {
	for _, x := range edgeNumbers() {
		sign, limbs := 1, []uint64{uint64(x)}
		switch {
		case x < 0:
			sign, limbs[0] = -1, uint64(-(x+1))+1
		case x == 0:
			sign, limbs = 0, nil
		}
		i := whole.Small(x)
		wantNumber(t, i, sign, limbs, "Small")
		if back, e := i.Int64(); back != x || e != api.OK {
			t.Errorf("Int64 of Small(%d) is %d, %d", x, back, e)
		}
		if x != minInt {
			wantSame(t, i.Neg(), whole.Small(-x), "Neg of Small")
		}
	}
}

// P4.1: Int64 at the least and the greatest int64, and just beside them.
func TestInt64(t *testing.T) {
	for _, c := range []struct {
		below bool
		limbs []uint64
		want  int64
		err   api.Errno
	}{
		{false, nil, 0, api.OK}, {true, nil, 0, api.OK}, {true, []uint64{5}, -5, api.OK},
		{false, []uint64{1<<63 - 2}, maxInt - 1, api.OK}, {false, []uint64{1<<63 - 1}, maxInt, api.OK},
		{false, []uint64{1 << 63}, 0, api.ErrOver}, {false, []uint64{1<<63 + 1}, 0, api.ErrOver}, {false, []uint64{m}, 0, api.ErrOver},
		{true, []uint64{1<<63 - 1}, minInt + 1, api.OK}, {true, []uint64{1 << 63}, minInt, api.OK},
		{true, []uint64{1<<63 + 1}, 0, api.ErrOver}, {true, []uint64{1<<63 + 2}, 0, api.ErrOver}, {true, []uint64{m}, 0, api.ErrOver},
		{false, []uint64{0, 1}, 0, api.ErrOver}, {true, []uint64{0, 1}, 0, api.ErrOver}, {true, []uint64{5, 1}, 0, api.ErrOver},
		{false, repeated(m, most), 0, api.ErrOver}, {true, repeated(m, most), 0, api.ErrOver},
		{true, append(make([]uint64, most-1), 1), 0, api.ErrOver}, {false, append(make([]uint64, most-1), 1), 0, api.ErrOver},
	} {
		if x, e := whole.New(c.below, far(t, c.limbs...)).Int64(); x != c.want || e != c.err {
			t.Errorf("Int64 of %v, %d limbs, is %d, %d, want %d, %d", c.below, len(c.limbs), x, e, c.want, c.err)
		}
	}
	beyond, _ := whole.Add(whole.Small(maxInt), whole.Small(1))
	under, _ := whole.Sub(whole.Small(minInt), whole.Small(1))
	for _, i := range []whole.Int{beyond, under, whole.Small(minInt).Neg(), under.Neg()} {
		if x, e := i.Int64(); x != 0 || e != api.ErrOver {
			t.Errorf("Int64 of %s is %d, %d", whole.Text(i), x, e)
		}
	}
}

// P4.2 against int64s.
func TestCompareSmall(t *testing.T) {
	numbers := edgeNumbers()
	for _, a := range numbers {
		for _, b := range []int64{minInt, minInt + 1, -301, -2, -1, 0, 1, 2, 7, 1 << 40, maxInt - 1, maxInt, a} {
			want := 0
			if a != b {
				want = 1
			}
			if a < b {
				want = -1
			}
			if got := whole.Compare(whole.Small(a), whole.Small(b)); got != want {
				t.Errorf("Compare(%d, %d) is %d", a, b, got)
			}
			if got := whole.Compare(whole.Small(b), whole.Small(a)); got != -want {
				t.Errorf("Compare(%d, %d) is %d", b, a, got)
			}
		}
	}
}

// P4.2 against the plain way.
func TestCompare(t *testing.T) {
	pairs := somePairs(t)
	for _, a := range pairs {
		for _, b := range pairs {
			if got, want := whole.Compare(a.got, b.got), a.want.compare(b.want); got != want {
				t.Errorf("Compare(%s, %s) is %d", a.want.text(), b.want.text(), got)
			}
		}
	}
}

// P4.2: numbers of MaxLimbs limbs, in their order from the least on.
func TestCompareLong(t *testing.T) {
	rising := []whole.Int{}
	for _, l := range [][]uint64{longest()[2], longest()[1], append([]uint64{m - 1}, repeated(m, most-1)...), longest()[0]} {
		rising = append(rising, whole.New(false, far(t, l...)))
	}
	falling := []whole.Int{}
	for _, i := range slices.Backward(rising) {
		falling = append(falling, i.Neg())
	}
	all := slices.Concat(falling, []whole.Int{whole.Small(minInt), whole.Small(-1), {}, whole.Small(1), whole.Small(maxInt)}, rising)
	for i, a := range all {
		for j, b := range all {
			if got := whole.Compare(a, b); got != sign(i-j) {
				t.Errorf("Compare of the numbers %d and %d is %d", i, j, got)
			}
		}
	}
}
