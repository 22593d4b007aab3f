package decimal_test

import (
	"testing"

	"tollbook/api"
	"tollbook/decimal"
)

// P6.1: what may be, and what may not.
func TestCheck(t *testing.T) {
	for _, units := range someUnits() {
		for places := -3; places <= 13; places++ {
			d, want := dec(units, places), api.ErrDecimal
			if mayBe(d) {
				want = api.OK
			}
			if e := decimal.Check(d); e != want {
				t.Errorf("Check(%v) is %d, want %d", d, e, want)
			}
		}
	}
	for _, d := range wrongDecs() {
		if e := decimal.Check(d); e != api.ErrDecimal {
			t.Errorf("Check(%v) is %d", d, e)
		}
	}
}

// P6.1: the chapter's examples, and the ends.
func TestCheckAtTheEnds(t *testing.T) {
	for _, d := range []api.Dec{
		dec(25, 1), dec(0, 0), dec(-5, 9), dec(5, 9), dec(20, 0), dec(-100, 0), dec(maxInt, 0), dec(maxInt, 9), dec(minInt, 0), dec(minInt, 9), dec(1, 1), dec(101, 2),
	} {
		if e := decimal.Check(d); e != api.OK {
			t.Errorf("Check(%v) is %d", d, e)
		}
	}
	for _, d := range []api.Dec{
		dec(20, 1), dec(0, 1), dec(0, 9), dec(5, 10), dec(5, -1), dec(0, 10), dec(0, -1), dec(-20, 9), dec(-9223372036854775800, 1), dec(maxInt, 10), dec(minInt, -1), dec(10, 1),
	} {
		if e := decimal.Check(d); e != api.ErrDecimal {
			t.Errorf("Check(%v) is %d", d, e)
		}
	}
}

// P6.1: what is made may be, and has the same worth.
func TestMake(t *testing.T) {
	for _, units := range someUnits() {
		for places := range 10 {
			d, e := decimal.Make(units, places)
			if e != api.OK || !mayBe(d) {
				t.Errorf("Make(%d, %d) is %v, %d", units, places, d, e)
				continue
			}
			if plainCompare(d, dec(units, places)) != 0 || d.Places > places {
				t.Errorf("Make(%d, %d) is %v, of another worth", units, places, d)
			}
		}
	}
}

func TestMakeExamples(t *testing.T) {
	for _, c := range []struct {
		units  int64
		places int
		want   api.Dec
	}{
		{2500, 3, dec(25, 1)}, {0, 9, dec(0, 0)}, {0, 0, dec(0, 0)}, {0, 1, dec(0, 0)}, {-100, 1, dec(-10, 0)}, {-100, 2, dec(-1, 0)}, {-100, 3, dec(-1, 1)}, {100, 0, dec(100, 0)},
		{1e18, 9, dec(1e9, 0)}, {-9e18, 9, dec(-9e9, 0)}, {1e9, 9, dec(1, 0)}, {1e8, 9, dec(1, 1)}, {maxInt, 9, dec(maxInt, 9)}, {minInt, 9, dec(minInt, 9)}, {minInt, 0, dec(minInt, 0)}, {maxInt, 0, dec(maxInt, 0)},
		{9223372036854775800, 1, dec(922337203685477580, 0)}, {-9223372036854775800, 2, dec(-92233720368547758, 0)}, {-9223372036854775800, 3, dec(-92233720368547758, 1)}, {5, 9, dec(5, 9)}, {1010, 2, dec(101, 1)},
	} {
		if d, e := decimal.Make(c.units, c.places); d != c.want || e != api.OK {
			t.Errorf("Make(%d, %d) is %v, %d, want %v", c.units, c.places, d, e, c.want)
		}
	}
}

// P6.1: places that may not be are refused, even where the worth has fewer.
func TestMakeRefuses(t *testing.T) {
	for _, places := range []int{-1, 10, -2, 11, 18, 19, 64, 1 << 32, -1 << 32, 1<<32 + 1, maxInt, minInt} {
		for _, units := range []int64{0, 1, 10, -10, 1e10, -1e18, maxInt, minInt} {
			if d, e := decimal.Make(units, places); d != (api.Dec{}) || e != api.ErrDecimal {
				t.Errorf("Make(%d, %d) is %v, %d", units, places, d, e)
			}
		}
	}
}

// P6.3 against numbers of 128 bits.
func TestCompare(t *testing.T) {
	decs := someDecs()
	x := mixed(2)
	for _, a := range decs {
		for range 40 {
			wantCompared(t, a, decs[x.next()%uint64(len(decs))])
		}
		wantCompared(t, a, a)
		for _, more := range []int64{-1, 1} {
			if next := dec(a.Units+more, a.Places); mayBe(next) {
				wantCompared(t, a, next)
			}
		}
	}
}

// P6.3: all pairs of those at the ends, and near to each other.
func TestCompareAtTheEnds(t *testing.T) {
	decs := []api.Dec{
		dec(0, 0), dec(1, 9), dec(-1, 9), dec(2, 9), dec(1, 0), dec(-1, 0), dec(999999999, 9), dec(1000000001, 9), dec(-999999999, 9), dec(-1000000001, 9), dec(25, 1), dec(3, 0), dec(251, 2), dec(249, 2),
		dec(maxInt, 0), dec(maxInt-1, 0), dec(minInt, 0), dec(minInt+1, 0), dec(maxInt, 1), dec(minInt, 1), dec(maxInt, 9), dec(maxInt-1, 9), dec(minInt, 9), dec(minInt+1, 9), dec(9223372036, 0), dec(9223372037, 0),
		dec(-9223372036, 0), dec(-9223372037, 0), dec(922337203685477580, 0), dec(922337203685477581, 0), dec(-922337203685477580, 0), dec(-922337203685477581, 0), dec(9223372036854775800, 0),
	}
	for _, a := range decs {
		for _, b := range decs {
			wantCompared(t, a, b)
		}
	}
}

func wantCompared(t *testing.T, a, b api.Dec) {
	t.Helper()
	want := plainCompare(a, b)
	if n, e := decimal.Compare(a, b); n != want || e != api.OK {
		t.Errorf("Compare(%v, %v) is %d, %d, want %d", a, b, n, e, want)
	}
}

// P6.3: one that may not be, on either side, and on both.
func TestCompareRefuses(t *testing.T) {
	wrong := wrongDecs()
	for i, d := range wrong {
		for _, o := range []api.Dec{{}, dec(25, 1), dec(minInt, 9), d, wrong[(i*7+3)%len(wrong)]} {
			for _, pair := range [][2]api.Dec{{d, o}, {o, d}} {
				if n, e := decimal.Compare(pair[0], pair[1]); n != 0 || e != api.ErrDecimal {
					t.Errorf("Compare(%v, %v) is %d, %d", pair[0], pair[1], n, e)
				}
			}
		}
	}
	if n, e := decimal.Compare(dec(5, 0), dec(50, 1)); n != 0 || e != api.ErrDecimal {
		t.Errorf("Compare({5 0}, {50 1}) is %d, %d", n, e)
	}
}
