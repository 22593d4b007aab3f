package limb_test

import (
	"math"
	"slices"
	"testing"

	"tollbook/api"
	"tollbook/limb"
)

// short tells a list in a failure without thousands of limbs.
func short(l []uint64) []uint64 {
	return l[:min(len(l), 8)]
}

// wantList holds an answered list against a row: the same number, and trimmed.
func wantList(t *testing.T, what string, got []uint64, want row) {
	t.Helper()
	if !slices.Equal(got, want.list()) {
		t.Errorf("%s: %x (%d limbs), not %x (%d limbs)", what, short(got), len(got), short(want.list()), len(want.list()))
	}
}

// wantRefused holds a refusal against R2: that error, and nothing beside it.
func wantRefused(t *testing.T, what string, l []uint64, rest uint64, e, want api.Errno) {
	t.Helper()
	if e != want || l != nil || rest != 0 {
		t.Errorf("%s: error %d, list %x, rest %d, not error %d alone", what, e, short(l), rest, want)
	}
}

// wordTriples are all of the edges with one another, and many others.
func wordTriples() [][3]uint64 {
	var all [][3]uint64
	for _, a := range edgeWords() {
		for _, b := range edgeWords() {
			for _, c := range edgeWords() {
				all = append(all, [3]uint64{a, b, c})
			}
		}
	}
	x := mixed(2)
	for range 2000 {
		all = append(all, [3]uint64{x.limb(), x.limb(), x.limb()})
	}
	return all
}

func TestAddWords(t *testing.T) {
	for _, x := range wordTriples() {
		s, c := limb.Add(x[0], x[1], x[2])
		want := rowOf(x[0]).plus(rowOf(x[1])).plus(rowOf(x[2]))
		if !slices.Equal(rowOf(s, c), want) || c > 2 {
			t.Errorf("Add(%d, %d, %d) = %d, %d", x[0], x[1], x[2], s, c)
		}
	}
	for _, x := range [][5]uint64{{m, m, m, m - 2, 2}, {1, 2, 3, 6, 0}, {m, 1, 0, 0, 1}, {m, 0, 1, 0, 1}, {0, m, m, m - 1, 1}, {m, m, 1, m, 1}, {m, m, 2, 0, 2}, {0, 0, m, m, 0}} {
		if s, c := limb.Add(x[0], x[1], x[2]); s != x[3] || c != x[4] {
			t.Errorf("Add(%d, %d, %d) = %d, %d", x[0], x[1], x[2], s, c)
		}
	}
}

func TestSubWords(t *testing.T) {
	for _, x := range wordTriples() {
		d, c := limb.Sub(x[0], x[1], x[2])
		// d + b + borrow is a + 2^64 c.
		left := rowOf(d).plus(rowOf(x[1])).plus(rowOf(x[2]))
		if !slices.Equal(left, rowOf(x[0]).plus(rowOf(0, c))) || c > 2 {
			t.Errorf("Sub(%d, %d, %d) = %d, %d", x[0], x[1], x[2], d, c)
		}
	}
	for _, x := range [][5]uint64{{0, m, m, 2, 2}, {0, 1, 0, m, 1}, {5, 2, 3, 0, 0}, {0, 0, 1, m, 1}, {0, 0, m, 1, 1}, {m, m, 1, m, 1}, {0, m, 1, 0, 1}, {0, m, 2, m, 2}} {
		if d, c := limb.Sub(x[0], x[1], x[2]); d != x[3] || c != x[4] {
			t.Errorf("Sub(%d, %d, %d) = %d, %d", x[0], x[1], x[2], d, c)
		}
	}
}

func TestMulWords(t *testing.T) {
	for _, x := range wordTriples() {
		high, low := limb.Mul(x[0], x[1])
		if !slices.Equal(rowOf(low, high), rowOf(x[0]).times(x[1])) {
			t.Errorf("Mul(%d, %d) = %d, %d", x[0], x[1], high, low)
		}
	}
	for _, x := range [][4]uint64{{m, m, m - 1, 1}, {1 << 32, 1 << 32, 1, 0}, {3, 5, 0, 15}, {m, 0, 0, 0}} {
		if high, low := limb.Mul(x[0], x[1]); high != x[2] || low != x[3] {
			t.Errorf("Mul(%d, %d) = %d, %d", x[0], x[1], high, low)
		}
	}
}

func TestDivWords(t *testing.T) {
	for _, x := range wordTriples() {
		q, r, e := limb.Div(x[0], x[1], x[2])
		switch {
		case x[2] == 0:
			wantRefused(t, "Div over 0", nil, q|r, e, api.ErrNought)
		case x[0] >= x[2]:
			wantRefused(t, "Div beyond 64 bits", nil, q|r, e, api.ErrOver)
		default:
			quotient, rest := rowOf(x[1], x[0]).over(x[2])
			if e != api.OK || !slices.Equal(rowOf(q), quotient) || !slices.Equal(rowOf(r), rest) {
				t.Errorf("Div(%d, %d, %d) = %d, %d, %d", x[0], x[1], x[2], q, r, e)
			}
		}
	}
	for _, x := range []struct {
		high, low, by, q, r uint64
		e                   api.Errno
	}{
		{1, 0, 2, 1 << 63, 0, api.OK}, {0, 7, 2, 3, 1, api.OK}, {m - 1, m, m, m, m - 1, api.OK},
		{0, m, 1, m, 0, api.OK}, {0, 0, m, 0, 0, api.OK},
		{1, 0, 1, 0, 0, api.ErrOver}, {m, 0, m, 0, 0, api.ErrOver}, {m, m, 1, 0, 0, api.ErrOver},
		{0, 0, 0, 0, 0, api.ErrNought}, {5, 0, 0, 0, 0, api.ErrNought}, {m, m, 0, 0, 0, api.ErrNought},
	} {
		if q, r, e := limb.Div(x.high, x.low, x.by); q != x.q || r != x.r || e != x.e {
			t.Errorf("Div(%d, %d, %d) = %d, %d, %d", x.high, x.low, x.by, q, r, e)
		}
	}
}

func TestTrim(t *testing.T) {
	for _, l := range allLists() {
		wantList(t, "Trim", limb.Trim(l), rowOf(l...))
	}
	if l := limb.Trim([]uint64{0, 5, 0, 0}); !slices.Equal(l, []uint64{0, 5}) {
		t.Error(l)
	}
	if l := limb.Trim([]uint64{0, 0}); len(l) != 0 {
		t.Error(l)
	}
}

func TestCompare(t *testing.T) {
	lists := allLists()
	for _, a := range lists {
		x := rowOf(a...)
		for _, b := range lists {
			want := min(1, max(-1, x.compare(rowOf(b...))))
			if got := limb.Compare(a, b); got != want {
				t.Errorf("Compare(%x, %x) = %d, not %d", short(a), short(b), got, want)
			}
		}
	}
	for _, x := range []struct {
		a, b []uint64
		want int
	}{
		{[]uint64{5}, []uint64{5, 0}, 0}, {[]uint64{0, 1}, []uint64{m}, 1}, {nil, []uint64{0}, 0},
		{[]uint64{1, 2}, []uint64{2, 1}, 1}, {[]uint64{2, 1}, []uint64{1, 2}, -1},
		{[]uint64{m}, []uint64{m - 1}, 1}, {[]uint64{1 << 63}, []uint64{1}, 1},
		{[]uint64{5, 0, 0, 0}, []uint64{6}, -1}, {nil, []uint64{1}, -1}, {[]uint64{1}, nil, 1},
	} {
		if got := limb.Compare(x.a, x.b); got != x.want {
			t.Errorf("Compare(%x, %x) = %d, not %d", x.a, x.b, got, x.want)
		}
	}
}

func TestBits(t *testing.T) {
	for _, l := range allLists() {
		if got := limb.Bits(l); got != len(rowOf(l...)) {
			t.Errorf("Bits(%x) = %d, not %d", short(l), got, len(rowOf(l...)))
		}
	}
	for _, x := range []struct {
		l    []uint64
		want int
	}{{nil, 0}, {[]uint64{0, 0}, 0}, {[]uint64{1}, 1}, {[]uint64{0, 1}, 65}, {[]uint64{m, m, 0}, 128}, {repeated(m, 4096), 262144}} {
		if got := limb.Bits(x.l); got != x.want {
			t.Errorf("Bits(%x) = %d, not %d", short(x.l), got, x.want)
		}
	}
}

func TestPlus(t *testing.T) {
	lists := allLists()
	for _, a := range lists {
		x := rowOf(a...)
		for _, b := range lists {
			wantList(t, "Plus", limb.Plus(a, b), x.plus(rowOf(b...)))
		}
	}
	for _, x := range []struct{ a, b, want []uint64 }{
		{[]uint64{m}, []uint64{1}, []uint64{0, 1}}, {[]uint64{0, 0}, []uint64{0}, nil},
		{[]uint64{m, m}, []uint64{1}, []uint64{0, 0, 1}}, {[]uint64{1}, []uint64{m, m}, []uint64{0, 0, 1}},
		{nil, nil, nil}, {[]uint64{3, 0, 0}, []uint64{4}, []uint64{7}},
	} {
		if got := limb.Plus(x.a, x.b); !slices.Equal(got, x.want) {
			t.Errorf("Plus(%x, %x) = %x", x.a, x.b, got)
		}
	}
}

// A sum has no limit: a carry through MaxLimbs limbs makes one more.
func TestPlusPastMaxLimbs(t *testing.T) {
	want := make([]uint64, api.MaxLimbs+1)
	want[api.MaxLimbs] = 1
	for _, got := range [][]uint64{limb.Plus(repeated(m, api.MaxLimbs), []uint64{1}), limb.Plus([]uint64{1}, repeated(m, api.MaxLimbs))} {
		if !slices.Equal(got, want) {
			t.Errorf("%d limbs", len(got))
		}
	}
	if got, e := limb.Less(want, []uint64{1}); e != api.OK || !slices.Equal(got, repeated(m, api.MaxLimbs)) {
		t.Errorf("back: %d limbs, error %d", len(got), e)
	}
}

func TestLess(t *testing.T) {
	lists := allLists()
	for _, a := range lists {
		x := rowOf(a...)
		for _, b := range lists {
			y := rowOf(b...)
			got, e := limb.Less(a, b)
			if x.compare(y) < 0 {
				wantRefused(t, "Less", got, 0, e, api.ErrBelow)
				continue
			}
			wantList(t, "Less", got, x.minus(y))
			if e != api.OK {
				t.Errorf("Less(%x, %x): error %d", short(a), short(b), e)
			}
		}
	}
	for _, x := range []struct {
		a, b, want []uint64
		e          api.Errno
	}{
		{[]uint64{0, 1}, []uint64{1}, []uint64{m}, api.OK}, {[]uint64{5}, []uint64{5, 0}, nil, api.OK},
		{[]uint64{0, 0, 0, 1}, []uint64{1}, []uint64{m, m, m}, api.OK}, {nil, []uint64{0}, nil, api.OK},
		{[]uint64{4}, []uint64{5}, nil, api.ErrBelow}, {nil, []uint64{1}, nil, api.ErrBelow},
		{[]uint64{m}, []uint64{0, 1}, nil, api.ErrBelow}, {[]uint64{m, 0, 0, 0}, []uint64{0, 1}, nil, api.ErrBelow},
	} {
		if got, e := limb.Less(x.a, x.b); !slices.Equal(got, x.want) || e != x.e {
			t.Errorf("Less(%x, %x) = %x, %d", x.a, x.b, got, e)
		}
	}
}

func TestTimes(t *testing.T) {
	for _, l := range edgeLists() {
		x := rowOf(l...)
		for _, by := range edgeWords() {
			product := x.times(by)
			for _, more := range edgeWords() {
				wantList(t, "Times", limb.Times(l, by, more), product.plus(rowOf(more)))
			}
		}
	}
	for _, l := range wideLists() {
		wantList(t, "Times, wide", limb.Times(l, m-2, m), rowOf(l...).times(m-2).plus(rowOf(m)))
	}
	y := mixed(3)
	for range 1000 {
		l, by, more := y.list(6), y.limb(), y.limb()
		wantList(t, "Times", limb.Times(l, by, more), rowOf(l...).times(by).plus(rowOf(more)))
	}
	for _, x := range []struct {
		l        []uint64
		by, more uint64
		want     []uint64
	}{
		{[]uint64{m}, m, m, []uint64{0, m}}, {[]uint64{1, 1}, 0, 7, []uint64{7}}, {nil, 5, 0, nil},
		{nil, 5, 9, []uint64{9}}, {[]uint64{0, 0}, m, m, []uint64{m}}, {[]uint64{m, m}, 0, 0, nil},
		{[]uint64{m, m}, m, m, []uint64{0, 0, m}}, {[]uint64{6, 0}, 7, 1, []uint64{43}},
	} {
		if got := limb.Times(x.l, x.by, x.more); !slices.Equal(got, x.want) {
			t.Errorf("Times(%x, %d, %d) = %x", x.l, x.by, x.more, got)
		}
	}
	// A product has no limit either.
	if got := limb.Times(repeated(m, api.MaxLimbs), m, 0); len(got) != api.MaxLimbs+1 {
		t.Errorf("%d limbs", len(got))
	}
}

// wantOver holds Over against a row that is divided digit by digit.
func wantOver(t *testing.T, l []uint64, by uint64) {
	t.Helper()
	q, r, e := limb.Over(l, by)
	if by == 0 {
		wantRefused(t, "Over", q, r, e, api.ErrNought)
		return
	}
	quotient, rest := rowOf(l...).over(by)
	wantList(t, "Over", q, quotient)
	if e != api.OK || !slices.Equal(rowOf(r), rest) {
		t.Errorf("Over(%x, %d): rest %d, error %d", short(l), by, r, e)
	}
}

func TestOver(t *testing.T) {
	for _, l := range edgeLists() {
		for _, by := range edgeWords() {
			wantOver(t, l, by)
		}
	}
	for _, l := range wideLists() {
		wantOver(t, l, m-58)
		wantOver(t, l, 0)
	}
	y := mixed(4)
	for range 1000 {
		wantOver(t, y.list(6), y.limb())
	}
	for _, x := range []struct {
		l    []uint64
		by   uint64
		want []uint64
		rest uint64
		e    api.Errno
	}{
		{[]uint64{0, 1}, 2, []uint64{1 << 63}, 0, api.OK}, {[]uint64{7, 0}, 2, []uint64{3}, 1, api.OK},
		{nil, 5, nil, 0, api.OK}, {[]uint64{0, 0}, m, nil, 0, api.OK}, {[]uint64{4}, 5, nil, 4, api.OK},
		{[]uint64{m, m}, m, []uint64{1, 1}, 0, api.OK}, {[]uint64{m, m - 1}, m, []uint64{m}, m - 1, api.OK},
		{[]uint64{1}, 0, nil, 0, api.ErrNought}, {nil, 0, nil, 0, api.ErrNought},
	} {
		if got, r, e := limb.Over(x.l, x.by); !slices.Equal(got, x.want) || r != x.rest || e != x.e {
			t.Errorf("Over(%x, %d) = %x, %d, %d", x.l, x.by, got, r, e)
		}
	}
}

// moves are how far numbers are moved: about whole limbs, about the limit, beyond all.
func moves() []int {
	const most = 64 * api.MaxLimbs
	return []int{
		math.MinInt, -most, -64, -1, 0, 1, 2, 31, 62, 63, 64, 65, 100, 127, 128, 129, 192, 1000,
		most - 65, most - 64, most - 63, most - 1, most, most + 1, 1 << 40, math.MaxInt - 63, math.MaxInt,
	}
}

func TestLeft(t *testing.T) {
	for _, l := range allLists() {
		x := rowOf(l...)
		for _, n := range moves() {
			got, e := limb.Left(l, n)
			switch {
			case n < 0:
				wantRefused(t, "Left", got, 0, e, api.ErrArg)
			case len(x) > 0 && n > 64*api.MaxLimbs-len(x):
				wantRefused(t, "Left", got, 0, e, api.ErrLong)
			case len(x) == 0:
				if len(got) != 0 || e != api.OK {
					t.Errorf("Left(%x, %d) = %x, %d", short(l), n, short(got), e)
				}
			default:
				wantList(t, "Left", got, x.up(n))
				if e != api.OK {
					t.Errorf("Left(%x, %d): error %d", short(l), n, e)
				}
			}
		}
	}
	for _, x := range []struct {
		l    []uint64
		bits int
		want []uint64
		e    api.Errno
	}{
		{[]uint64{1}, 64, []uint64{0, 1}, api.OK}, {[]uint64{m}, 1, []uint64{m - 1, 1}, api.OK},
		{[]uint64{0}, 1e18, nil, api.OK}, {[]uint64{0, 0}, math.MaxInt, nil, api.OK}, {nil, math.MaxInt, nil, api.OK},
		{[]uint64{3, 0}, 63, []uint64{1 << 63, 1}, api.OK}, {[]uint64{3}, 0, []uint64{3}, api.OK},
		{[]uint64{1}, 262144, nil, api.ErrLong}, {[]uint64{1}, math.MaxInt, nil, api.ErrLong},
		{[]uint64{1}, -1, nil, api.ErrArg}, {nil, -1, nil, api.ErrArg}, {[]uint64{1}, math.MinInt, nil, api.ErrArg},
	} {
		if got, e := limb.Left(x.l, x.bits); !slices.Equal(got, x.want) || e != x.e {
			t.Errorf("Left(%x, %d) = %x, %d", x.l, x.bits, got, e)
		}
	}
}

// At MaxLimbs all is as told; one digit past it is refused.
func TestLeftLimit(t *testing.T) {
	full := repeated(m, api.MaxLimbs)
	padded := append(slices.Clone(full), 0, 0, 0)
	for _, x := range []struct {
		l    []uint64
		bits int
		e    api.Errno
	}{
		{[]uint64{1}, 262143, api.OK}, {[]uint64{1}, 262144, api.ErrLong},
		{[]uint64{m}, 262080, api.OK}, {[]uint64{m}, 262081, api.ErrLong},
		{[]uint64{1, 0, 0, 0, 0}, 262143, api.OK}, {[]uint64{1, 0, 0, 0, 0}, 262144, api.ErrLong},
		{full, 0, api.OK}, {full, 1, api.ErrLong}, {padded, 0, api.OK}, {padded, 1, api.ErrLong},
		{repeated(m, api.MaxLimbs+1), 0, api.ErrLong}, {repeated(m, api.MaxLimbs+1), -1, api.ErrArg},
		{repeated(0, 2*api.MaxLimbs), 1 << 50, api.OK},
	} {
		got, e := limb.Left(x.l, x.bits)
		if e != x.e {
			t.Errorf("Left(%x.., %d): error %d, not %d", short(x.l), x.bits, e, x.e)
		}
		if e == api.OK && limb.Bits(x.l) > 0 {
			wantList(t, "Left at the limit", got, rowOf(x.l...).up(x.bits))
			if len(got) != api.MaxLimbs {
				t.Errorf("Left(%x.., %d): %d limbs", short(x.l), x.bits, len(got))
			}
		}
		if e != api.OK {
			wantRefused(t, "Left past the limit", got, 0, e, x.e)
		}
	}
}

func TestRight(t *testing.T) {
	for _, l := range allLists() {
		x := rowOf(l...)
		for _, n := range moves() {
			got, e := limb.Right(l, n)
			if n < 0 {
				wantRefused(t, "Right", got, 0, e, api.ErrArg)
				continue
			}
			wantList(t, "Right", got, x.down(n))
			if e != api.OK {
				t.Errorf("Right(%x, %d): error %d", short(l), n, e)
			}
		}
	}
	for _, x := range []struct {
		l    []uint64
		bits int
		want []uint64
		e    api.Errno
	}{
		{[]uint64{0, 1}, 63, []uint64{2}, api.OK}, {[]uint64{m, m}, 64, []uint64{m}, api.OK},
		{[]uint64{5}, 3, nil, api.OK}, {[]uint64{5, 0, 0}, 2, []uint64{1}, api.OK}, {[]uint64{0, 5}, 0, []uint64{0, 5}, api.OK},
		{[]uint64{m, m}, math.MaxInt, nil, api.OK}, {[]uint64{m, m}, 127, []uint64{1}, api.OK}, {[]uint64{m, m}, 128, nil, api.OK},
		{nil, -1, nil, api.ErrArg}, {[]uint64{1}, math.MinInt, nil, api.ErrArg},
	} {
		if got, e := limb.Right(x.l, x.bits); !slices.Equal(got, x.want) || e != x.e {
			t.Errorf("Right(%x, %d) = %x, %d", x.l, x.bits, got, e)
		}
	}
	// Lists that Left would refuse may be moved right.
	if got, e := limb.Right(repeated(m, 3*api.MaxLimbs), 64); e != api.OK || !slices.Equal(got, repeated(m, 3*api.MaxLimbs-1)) {
		t.Errorf("%d limbs, error %d", len(got), e)
	}
}
