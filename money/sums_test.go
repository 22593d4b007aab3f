package money_test

import (
	"slices"
	"testing"

	"tollbook/api"
	"tollbook/money"
	"tollbook/nat"
	"tollbook/whole"
)

func wantAdded(t *testing.T, a, b int64, want outcome) {
	t.Helper()
	if n, e := money.Add(a, b); n != want.n || e != want.e {
		t.Errorf("Add(%d, %d) is %d, error %d, want %d, error %d", a, b, n, e, want.n, want.e)
	}
}

func wantTakenOff(t *testing.T, a, b int64, want outcome) {
	t.Helper()
	if n, e := money.Sub(a, b); n != want.n || e != want.e {
		t.Errorf("Sub(%d, %d) is %d, error %d, want %d, error %d", a, b, n, e, want.n, want.e)
	}
}

func wantSum(t *testing.T, want outcome, l ...int64) {
	t.Helper()
	if n, e := money.Sum(l); n != want.n || e != want.e {
		t.Errorf("Sum(%v) is %d, error %d, want %d, error %d", l[:min(len(l), 12)], n, e, want.n, want.e)
	}
}

func wantNarrow(t *testing.T, i whole.Int, want outcome) {
	t.Helper()
	if n, e := money.Narrow(i); n != want.n || e != want.e {
		t.Errorf("Narrow(%s) is %d, error %d, want %d, error %d", short(whole.Text(i)), n, e, want.n, want.e)
	}
}

// ends are the numbers at both ends of 64 bits, in their middle and about 0.
func ends() []int64 {
	list := []int64{}
	for _, x := range []int64{0, maxInt, minInt, maxInt / 2, minInt / 2, 1 << 32, -1 << 32} {
		for more := int64(-3); more <= 3; more++ {
			list = append(list, x+more)
		}
	}
	return list
}

// P9.1: all pairs of what stands at the ends, and of what does not.
func TestAddAndSub(t *testing.T) {
	list := ends()
	x := mixed(2)
	for n := range 64 {
		list = append(list, int64(x.next())>>n)
	}
	for _, a := range list {
		for _, b := range list {
			wantAdded(t, a, b, plainSum(t, a, b))
			n, e := sum(t, whole.Small(a), whole.Small(b).Neg()).Int64()
			wantTakenOff(t, a, b, outcome{n, e})
			wantSum(t, plainSum(t, a, b), a, b)
		}
	}
}

// P9.1: the chapter's examples, and both ends and one beyond them.
func TestAddAndSubAtTheEnds(t *testing.T) {
	over := outcome{e: api.ErrOver}
	wantAdded(t, maxInt, 1, over)
	wantAdded(t, 1, maxInt, over)
	wantAdded(t, minInt, -1, over)
	wantAdded(t, -1, minInt, over)
	wantAdded(t, minInt, minInt, over)
	wantAdded(t, maxInt, maxInt, over)
	wantAdded(t, maxInt, minInt, outcome{n: -1})
	wantAdded(t, maxInt, 0, outcome{n: maxInt})
	wantAdded(t, 0, minInt, outcome{n: minInt})
	wantAdded(t, maxInt-1, 1, outcome{n: maxInt})
	wantAdded(t, minInt+1, -1, outcome{n: minInt})
	wantTakenOff(t, minInt, 1, over)
	wantTakenOff(t, 0, minInt, over)
	wantTakenOff(t, 1, minInt, over)
	wantTakenOff(t, maxInt, -1, over)
	wantTakenOff(t, -2, maxInt, over)
	wantTakenOff(t, maxInt, minInt, over)
	wantTakenOff(t, minInt, maxInt, over)
	wantTakenOff(t, -1, minInt, outcome{n: maxInt})
	wantTakenOff(t, -1, maxInt, outcome{n: minInt})
	wantTakenOff(t, 0, maxInt, outcome{n: -maxInt})
	wantTakenOff(t, minInt, minInt, outcome{})
	wantTakenOff(t, minInt, 0, outcome{n: minInt})
	wantTakenOff(t, maxInt, maxInt, outcome{})
}

// P9.1: sums that run over in the end, or on the way alone.
func TestSumAtTheEnds(t *testing.T) {
	over := outcome{e: api.ErrOver}
	wantSum(t, outcome{})
	if n, e := money.Sum([]int64{}); n != 0 || e != api.OK {
		t.Errorf("Sum of an empty list is %d, error %d", n, e)
	}
	for _, x := range ends() {
		wantSum(t, outcome{n: x}, x)
		wantSum(t, outcome{n: x}, x, maxInt, minInt, 1)
		wantSum(t, outcome{n: x}, maxInt, maxInt, maxInt, x, -maxInt, -maxInt, -maxInt)
		wantSum(t, outcome{n: x}, minInt, minInt, x, maxInt, 1, maxInt, 1)
	}
	wantSum(t, outcome{n: maxInt}, maxInt, 1, -1)
	wantSum(t, over, maxInt, 1)
	wantSum(t, over, maxInt, 1, 0)
	wantSum(t, over, maxInt, maxInt, minInt, 2)
	wantSum(t, outcome{n: maxInt}, maxInt, maxInt, minInt, 1)
	wantSum(t, outcome{n: minInt}, minInt, -1, 1)
	wantSum(t, over, minInt, -1)
	wantSum(t, over, minInt, minInt)
	wantSum(t, outcome{}, minInt, minInt, maxInt, maxInt, 2)
	wantSum(t, outcome{n: minInt}, minInt, minInt, maxInt, 1)
	wantSum(t, over, minInt, minInt, maxInt)
	// Both come to 0 in the lowest 64 bits.
	wantSum(t, over, maxInt, maxInt, 2)
	wantSum(t, over, minInt, minInt, minInt, minInt)
}

// P9.1: lists without an order, of which some come near to the ends.
func TestSumOfMany(t *testing.T) {
	x := mixed(3)
	asked := [2]int{}
	for round := range 3000 {
		list := make([]int64, x.next()%9)
		for i := range list {
			list[i] = int64(x.next()) >> (x.next() % uint64(1+round%6))
		}
		if len(list) > 1 && round%3 == 0 {
			// All but the last few units are taken off again.
			list = append(list, -list[0], int64(x.next()%5)-2)
		}
		want := plainSum(t, list...)
		wantSum(t, want, list...)
		if want.e == api.OK {
			asked[0]++
		} else {
			asked[1]++
		}
	}
	if min(asked[0], asked[1]) < 300 {
		t.Errorf("%d are of 64 bits, %d are not", asked[0], asked[1])
	}
}

// P9.1: long lists; both ends so often that 2^64 is come to many times.
func TestSumOfLongLists(t *testing.T) {
	const many = 1 << 18
	top, bottom := slices.Repeat([]int64{maxInt}, many), slices.Repeat([]int64{minInt}, many)
	wantSum(t, outcome{e: api.ErrOver}, top...)
	wantSum(t, outcome{e: api.ErrOver}, bottom...)
	both := slices.Concat(top, bottom)
	wantSum(t, outcome{n: -many}, both...)
	slices.Reverse(both)
	wantSum(t, outcome{n: -many}, both...)
	wantSum(t, outcome{n: maxInt}, append(both, many, maxInt)...)
	wantSum(t, outcome{e: api.ErrOver}, append(both, many, maxInt, 1)...)
	wantSum(t, outcome{n: minInt}, append(both, minInt, many)...)
	wantSum(t, outcome{e: api.ErrOver}, append(both, minInt)...)
	wantSum(t, outcome{n: 7 * many}, slices.Repeat([]int64{7}, many)...)
	wantSum(t, outcome{n: -7 * many}, slices.Repeat([]int64{-7}, many)...)
}

// P9.1: numbers of 64 bits stay, all others are refused.
func TestNarrow(t *testing.T) {
	over := outcome{e: api.ErrOver}
	wantNarrow(t, whole.Int{}, outcome{})
	for _, x := range ends() {
		wantNarrow(t, whole.Small(x), outcome{n: x})
	}
	wantNarrow(t, two(t, 63, -1), outcome{n: maxInt})
	wantNarrow(t, two(t, 63, 0), over)
	wantNarrow(t, two(t, 63, 1), over)
	wantNarrow(t, two(t, 63, -1).Neg(), outcome{n: -maxInt})
	wantNarrow(t, two(t, 63, 0).Neg(), outcome{n: minInt})
	wantNarrow(t, two(t, 63, 1).Neg(), over)
	for _, bits := range []int{64, 65, 127, 128, 1000, end, 64*api.MaxLimbs - 1} {
		for more := int64(-1); more <= 1; more++ {
			wantNarrow(t, two(t, bits, more), over)
			wantNarrow(t, two(t, bits, more).Neg(), over)
		}
	}
	longest, e := nat.Of(slices.Repeat([]uint64{1<<64 - 1}, api.MaxLimbs))
	wantOK(t, e, "nat.Of")
	wantNarrow(t, whole.New(false, longest), over)
	wantNarrow(t, whole.New(true, longest), over)
}
