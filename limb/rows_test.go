package limb_test

// What the tests hold the package against: numbers as rows of binary digits,
// reckoned with digit by digit and with nothing of the package in it.

import (
	"slices"
	"testing"
)

const m = 1<<64 - 1

// row has the lowest digit first, and no 0 at its end.
type row []byte

func trimmedRow(r row) row {
	for len(r) > 0 && r[len(r)-1] == 0 {
		r = r[:len(r)-1]
	}
	return r
}

func rowOf(l ...uint64) row {
	r := make(row, 0, 64*len(l))
	for _, x := range l {
		for range 64 {
			r = append(r, byte(x&1))
			x >>= 1
		}
	}
	return trimmedRow(r)
}

func (r row) list() []uint64 {
	l := make([]uint64, (len(r)+63)/64)
	for i, digit := range r {
		l[i/64] |= uint64(digit) << (i % 64)
	}
	return l
}

func (r row) digit(i int) int {
	if i < len(r) {
		return int(r[i])
	}
	return 0
}

func (r row) plus(o row) row {
	sum := make(row, max(len(r), len(o))+1)
	carry := 0
	for i := range sum {
		carry += r.digit(i) + o.digit(i)
		sum[i] = byte(carry % 2)
		carry /= 2
	}
	return trimmedRow(sum)
}

// minus is asked where o is not above r alone.
func (r row) minus(o row) row {
	rest := make(row, len(r))
	borrow := 0
	for i := range rest {
		digit := r.digit(i) - o.digit(i) - borrow
		borrow = 0
		if digit < 0 {
			digit, borrow = digit+2, 1
		}
		rest[i] = byte(digit)
	}
	return trimmedRow(rest)
}

func (r row) compare(o row) int {
	for i := max(len(r), len(o)) - 1; i >= 0; i-- {
		if d := r.digit(i) - o.digit(i); d != 0 {
			return d
		}
	}
	return 0
}

func (r row) up(n int) row {
	return trimmedRow(append(make(row, n), r...))
}

func (r row) down(n int) row {
	return slices.Clone(r[min(n, len(r)):])
}

func (r row) times(by uint64) row {
	product := row{}
	for i, digit := range rowOf(by) {
		if digit == 1 {
			product = product.plus(r.up(i))
		}
	}
	return product
}

func (r row) over(by uint64) (row, row) {
	quotient := make(row, len(r))
	rest, divisor := row{}, rowOf(by)
	for i := len(r) - 1; i >= 0; i-- {
		rest = trimmedRow(append(row{r[i]}, rest...))
		if rest.compare(divisor) >= 0 {
			quotient[i] = 1
			rest = rest.minus(divisor)
		}
	}
	return trimmedRow(quotient), rest
}

// The rows are themselves held against small numbers.
func TestRows(t *testing.T) {
	for a := range uint64(40) {
		for b := range uint64(40) {
			x, y := rowOf(a), rowOf(b)
			if !slices.Equal(x.plus(y), rowOf(a+b)) || !slices.Equal(x.times(b), rowOf(a*b)) {
				t.Error("plus, times", a, b)
			}
			if a >= b && !slices.Equal(x.minus(y), rowOf(a-b)) {
				t.Error("minus", a, b)
			}
			if (x.compare(y) < 0) != (a < b) || (x.compare(y) > 0) != (a > b) {
				t.Error("compare", a, b)
			}
			if b == 0 {
				continue
			}
			if q, r := x.over(b); !slices.Equal(q, rowOf(a/b)) || !slices.Equal(r, rowOf(a%b)) {
				t.Error("over", a, b)
			}
		}
		if !slices.Equal(rowOf(a).up(3), rowOf(a*8)) || !slices.Equal(rowOf(a).down(3), rowOf(a/8)) {
			t.Error("up, down", a)
		}
	}
	if l := rowOf(0, m, 7, 0).list(); !slices.Equal(l, []uint64{0, m, 7}) {
		t.Error("list", l)
	}
}

// mixed tells numbers without an order, the same ones in every run.
type mixed uint64

func (x *mixed) next() uint64 {
	*x += 0x9e3779b97f4a7c15
	z := uint64(*x)
	z = (z ^ z>>30) * 0xbf58476d1ce4e5b9
	z = (z ^ z>>27) * 0x94d049bb133111eb
	return z ^ z>>31
}

// limb tells, beside any limb, those at which carries come about.
func (x *mixed) limb() uint64 {
	switch x.next() % 6 {
	case 0:
		return 0
	case 1:
		return m
	case 2:
		return 1 << (x.next() % 64)
	case 3:
		return m - x.next()%3
	}
	return x.next()
}

func (x *mixed) list(most int) []uint64 {
	l := make([]uint64, x.next()%uint64(most+1))
	for i := range l {
		l[i] = x.limb()
	}
	return l
}

func repeated(x uint64, n int) []uint64 {
	return slices.Repeat([]uint64{x}, n)
}

// edgeWords are the limbs about which carries turn.
func edgeWords() []uint64 {
	return []uint64{0, 1, 2, 3, 7, 10, 1<<32 - 1, 1 << 32, 1<<32 + 1, 1<<63 - 1, 1 << 63, 1<<63 + 1, m - 2, m - 1, m}
}

// edgeLists are short lists: empty ones, noughts, trimmed and not, ones with long carries.
func edgeLists() [][]uint64 {
	return [][]uint64{
		nil, {}, {0}, {0, 0, 0},
		{1}, {1, 0}, {2}, {5}, {7, 0, 0}, {m}, {m, 0}, {m - 1}, {1 << 63}, {1 << 32},
		{0, 1}, {1, 1}, {0, 1, 0, 0}, {m, 1}, {m, m}, {m, m, 0}, {0, m}, {1, m}, {0, 1 << 63},
		{0, 0, 1}, {1, 0, 1}, {m, m, m}, {m, 0, m}, {0, m, 0, m, 0},
		{m, m, m, m}, {0, 0, 0, 1, 0}, {1, 2, 3, 4, 5},
	}
}

// wideLists are lists about MaxLimbs, and well past it.
func wideLists() [][]uint64 {
	const most = 4096
	one := make([]uint64, most)
	one[most-1] = 1
	return [][]uint64{
		repeated(m, most-1), repeated(m, most), repeated(m, most+1), one,
		append(slices.Clone(one), 0, 0, 0),
		append(repeated(m, most), make([]uint64, 3000)...),
		repeated(0, 9000), append([]uint64{5}, make([]uint64, 9000)...),
		repeated(0x123456789abcdef, 5000),
	}
}

func allLists() [][]uint64 {
	lists := append(edgeLists(), wideLists()...)
	x := mixed(1)
	for range 40 {
		lists = append(lists, x.list(7))
	}
	return lists
}
