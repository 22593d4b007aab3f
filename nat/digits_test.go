package nat_test

// What the tests hold the package against: numbers as rows of digits of 16
// bits, reckoned with in the plainest ways, with nothing of the package in it;
// and, for numbers too long for these, what is left of them over primes.

import (
	"slices"
	"testing"

	"tollbook/api"
	"tollbook/nat"
)

const (
	m      = 1<<64 - 1
	base   = 1 << 16
	maxInt = 1<<63 - 1
	most   = api.MaxLimbs
)

// digits has the lowest digit first, and no 0 at its end.
type digits []uint64

func trimmed(d digits) digits {
	for len(d) > 0 && d[len(d)-1] == 0 {
		d = d[:len(d)-1]
	}
	return d
}

func digitsOf(l ...uint64) digits {
	d := digits{}
	for _, x := range l {
		for range 4 {
			d = append(d, x%base)
			x /= base
		}
	}
	return trimmed(d)
}

func (d digits) limbs() []uint64 {
	l := make([]uint64, (len(d)+3)/4)
	for i, x := range d {
		l[i/4] |= x << (16 * (i % 4))
	}
	return l
}

func (d digits) at(i int) uint64 {
	if i < len(d) {
		return d[i]
	}
	return 0
}

func (d digits) compare(o digits) int {
	for i := max(len(d), len(o)) - 1; i >= 0; i-- {
		switch {
		case d.at(i) < o.at(i):
			return -1
		case d.at(i) > o.at(i):
			return 1
		}
	}
	return 0
}

func (d digits) plus(o digits) digits {
	sum := make(digits, max(len(d), len(o))+1)
	carry := uint64(0)
	for i := range sum {
		carry += d.at(i) + o.at(i)
		sum[i] = carry % base
		carry /= base
	}
	return trimmed(sum)
}

// minus is asked where o is not above d alone.
func (d digits) minus(o digits) digits {
	rest := make(digits, len(d))
	borrow := uint64(0)
	for i := range rest {
		x := base + d.at(i) - o.at(i) - borrow
		rest[i] = x % base
		borrow = 1 - x/base
	}
	return trimmed(rest)
}

func (d digits) times(o digits) digits {
	product := make(digits, len(d)+len(o))
	for i, x := range d {
		carry := uint64(0)
		for j := range len(product) - i {
			carry += product[i+j] + x*o.at(j)
			product[i+j] = carry % base
			carry /= base
		}
	}
	return trimmed(product)
}

// over seeks each digit of the quotient by halving.
func (d digits) over(o digits) (digits, digits) {
	quotient := make(digits, len(d))
	rest := digits{}
	for i := len(d) - 1; i >= 0; i-- {
		rest = trimmed(append(digits{d[i]}, rest...))
		low, high := uint64(0), uint64(base)
		for high-low > 1 {
			if mid := (low + high) / 2; o.times(digits{mid}).compare(rest) <= 0 {
				low = mid
			} else {
				high = mid
			}
		}
		quotient[i] = low
		rest = rest.minus(o.times(trimmed(digits{low})))
	}
	return trimmed(quotient), rest
}

func (d digits) gcd(o digits) digits {
	for len(o) > 0 {
		_, rest := d.over(o)
		d, o = o, rest
	}
	return d
}

func (d digits) power(n int) digits {
	power := digits{1}
	for range n {
		power = power.times(d)
	}
	return power
}

// root seeks the root bit by bit.
func (d digits) root() digits {
	root := digits{}
	for i := 8*len(d) + 8; i >= 0; i-- {
		bit := make(digits, i/16+1)
		bit[i/16] = 1 << (i % 16)
		if next := root.plus(bit); next.times(next).compare(d) <= 0 {
			root = next
		}
	}
	return root
}

// The digits are themselves held against small numbers.
func TestDigits(t *testing.T) {
	small := []uint64{0, 1, 2, 3, 15, 16, 255, 65535, 65536, 65537, 1 << 31, 1<<32 - 1}
	for _, a := range small {
		for _, b := range small {
			x, y := digitsOf(a), digitsOf(b)
			if !slices.Equal(x.plus(y), digitsOf(a+b)) || !slices.Equal(x.times(y), digitsOf(a*b)) {
				t.Error("plus, times", a, b)
			}
			if a >= b && !slices.Equal(x.minus(y), digitsOf(a-b)) {
				t.Error("minus", a, b)
			}
			if (x.compare(y) < 0) != (a < b) || (x.compare(y) > 0) != (a > b) {
				t.Error("compare", a, b)
			}
			if b == 0 {
				continue
			}
			if q, r := x.over(y); !slices.Equal(q, digitsOf(a/b)) || !slices.Equal(r, digitsOf(a%b)) {
				t.Error("over", a, b)
			}
			if g := x.gcd(y); len(g) == 0 || a%g.limbs()[0] != 0 || b%g.limbs()[0] != 0 {
				t.Error("gcd", a, b)
			}
		}
		if r := digitsOf(a * a).root(); !slices.Equal(r, digitsOf(a)) {
			t.Error("root", a)
		}
	}
	if p := digitsOf(3).power(4); !slices.Equal(p, digits{81}) {
		t.Error("power", p)
	}
	if l := digitsOf(0, m, 7, 0).limbs(); !slices.Equal(l, []uint64{0, m, 7}) {
		t.Error("limbs", l)
	}
}

// residues is what is left of a number over three primes.
type residues [3]uint64

func primes() residues {
	return residues{4294967291, 4294967279, 65521}
}

func residuesOf(l []uint64) residues {
	left := residues{}
	for i, p := range primes() {
		for j := len(l) - 1; j >= 0; j-- {
			left[i] = (left[i]<<32 | l[j]>>32) % p
			left[i] = (left[i]<<32 | l[j]&(1<<32-1)) % p
		}
	}
	return left
}

func (r residues) plus(o residues) residues {
	for i, p := range primes() {
		r[i] = (r[i] + o[i]) % p
	}
	return r
}

func (r residues) times(o residues) residues {
	for i, p := range primes() {
		r[i] = r[i] * o[i] % p
	}
	return r
}

func (r residues) power(n int) residues {
	power := residues{1, 1, 1}
	for range n {
		power = power.times(r)
	}
	return power
}

// mixed tells numbers without an order, the same ones in every run.
type mixed uint64

func (x *mixed) next() uint64 {
	*x += 0x9e3779b97f4a7c15
	z := uint64(*x)
	z = (z ^ z>>30) * 0xbf58476d1ce4e5b9
	z = (z ^ z>>27) * 0x94d049bb133111eb
	return z ^ z>>31
}

// limb tells, beside any limb, those at which carries and wrong guesses come about.
func (x *mixed) limb() uint64 {
	switch x.next() % 8 {
	case 0, 1:
		return 0
	case 2, 3:
		return m
	case 4:
		return 1 << (x.next() % 64)
	case 5:
		return m - x.next()%3
	}
	return x.next()
}

// list has just n limbs, the highest not 0.
func (x *mixed) list(n int) []uint64 {
	l := make([]uint64, n)
	for i := range l {
		l[i] = x.limb()
	}
	if n > 0 {
		l[n-1] |= 1 << (x.next() % 64)
	}
	return l
}

func repeated(x uint64, n int) []uint64 {
	return slices.Repeat([]uint64{x}, n)
}

// power2 is 2^n as limbs.
func power2(n int) []uint64 {
	l := make([]uint64, n/64+1)
	l[n/64] = 1 << (n % 64)
	return l
}

// ones is 2^n - 1 as limbs.
func ones(n int) []uint64 {
	l := repeated(m, n/64)
	if n%64 > 0 {
		l = append(l, 1<<(n%64)-1)
	}
	return l
}

// edges are numbers of few limbs: 0, small ones, ones with long carries.
func edges() [][]uint64 {
	return [][]uint64{
		nil, {1}, {2}, {3}, {4}, {5}, {7}, {8}, {9}, {12}, {15}, {16}, {18}, {60}, {97},
		{1<<32 - 1}, {1 << 32}, {1 << 63}, {m - 1}, {m},
		{0, 1}, {1, 1}, {m, 1}, {6, 1}, {0, 2}, {0, 1 << 63}, {1, 1 << 63}, {0, m}, {1, m}, {m - 1, m}, {m, m},
		{0, 0, 1}, {1, 0, 1}, {3, 0, 1 << 63}, {0, m, 1 << 63}, {m, 0, m}, {m, m, 1}, {1, 0, m}, {m, m, m},
		{0, 0, 0, 1}, {0, m - 1, m - 1, m}, {m, m, 0, 1 << 62}, {1, 2, 3, 4, 5},
	}
}

func manyLists() [][]uint64 {
	lists := edges()
	x := mixed(1)
	for i := range 50 {
		lists = append(lists, x.list(i%8))
	}
	return lists
}

// longest are numbers of MaxLimbs limbs, and just below.
func longest() [][]uint64 {
	x := mixed(2)
	return [][]uint64{
		repeated(m, most), repeated(m, most-1), power2(64*most - 1), power2(64*most - 64), ones(64*most - 1),
		x.list(most), x.list(most - 1), x.list(most/2 + 1),
	}
}

func of(t *testing.T, l ...uint64) nat.Nat {
	t.Helper()
	n, e := nat.Of(l)
	if e != api.OK {
		t.Fatalf("Of a list of %d: %d", len(l), e)
	}
	return n
}

// short keeps what a test tells legible.
func short(l []uint64) []uint64 {
	if len(l) <= 8 {
		return l
	}
	return append(slices.Clone(l[:4]), l[len(l)-4:]...)
}

func wantLimbs(t *testing.T, n nat.Nat, want []uint64, call string, args ...any) {
	t.Helper()
	if got := n.Limbs(); !slices.Equal(got, want) {
		t.Errorf("%s%x is %x (%d limbs), want %x (%d)", call, args, short(got), len(got), short(want), len(want))
	}
}

func wantOK(t *testing.T, e api.Errno, call string, args ...any) {
	t.Helper()
	if e != api.OK {
		t.Errorf("%s%x: error %d", call, args, e)
	}
}

// wantRefused: the error, and 0 beside it.
func wantRefused(t *testing.T, n nat.Nat, e, want api.Errno, call string, args ...any) {
	t.Helper()
	if e != want || !n.IsZero() || len(n.Limbs()) != 0 {
		t.Errorf("%s%x is %x, error %d, want 0 and error %d", call, args, short(n.Limbs()), e, want)
	}
}
