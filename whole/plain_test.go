package whole_test

// What the tests hold the package against: a sign and a row of decimal digits,
// reckoned with in the plainest ways, with nothing of the package in it; and,
// for numbers too long for these, what is left of them over primes.

import (
	"slices"
	"strings"
	"testing"

	"tollbook/api"
	"tollbook/nat"
	"tollbook/whole"
)

const (
	m      = 1<<64 - 1
	most   = api.MaxLimbs
	maxInt = 1<<63 - 1
	minInt = -1 << 63
)

// row has a decimal digit a place, the lowest first, and no 0 at its end.
type row []int

func trimmed(r row) row {
	for len(r) > 0 && r[len(r)-1] == 0 {
		r = r[:len(r)-1]
	}
	return r
}

// rowOf doubles and adds a bit, from the highest bit on.
func rowOf(l []uint64) row {
	r := row{}
	for _, x := range slices.Backward(l) {
		for i := 63; i >= 0; i-- {
			carry := int(x >> i & 1)
			for j := range r {
				carry += 2 * r[j]
				r[j] = carry % 10
				carry /= 10
			}
			r = trimmed(append(r, carry))
		}
	}
	return r
}

func (r row) at(i int) int {
	if i < len(r) {
		return r[i]
	}
	return 0
}

func (r row) compare(o row) int {
	for i := max(len(r), len(o)) - 1; i >= 0; i-- {
		if r.at(i) != o.at(i) {
			return sign(r.at(i) - o.at(i))
		}
	}
	return 0
}

func sign(x int) int {
	switch {
	case x < 0:
		return -1
	case x > 0:
		return 1
	}
	return 0
}

// plus adds digit by digit, each one times factor, which is 1 or -1: at -1 o
// must not be above r.
func (r row) plus(o row, factor int) row {
	sum := make(row, max(len(r), len(o))+1)
	carry := 0
	for i := range sum {
		x := r.at(i) + factor*o.at(i) + carry + 10
		sum[i] = x % 10
		carry = x/10 - 1
	}
	return trimmed(sum)
}

func (r row) times(o row) row {
	product := make(row, len(r)+len(o)+1)
	for i, x := range r {
		for j, y := range o {
			product[i+j] += x * y
		}
	}
	for i := range len(product) - 1 {
		product[i+1] += product[i] / 10
		product[i] %= 10
	}
	return trimmed(product)
}

// plain is a whole number; below is not set of 0.
type plain struct {
	below bool
	far   row
}

func plainOf(below bool, l []uint64) plain {
	r := rowOf(l)
	return plain{below && len(r) > 0, r}
}

func (p plain) neg() plain {
	return plain{!p.below && len(p.far) > 0, p.far}
}

func (p plain) compare(o plain) int {
	switch {
	case p.below && !o.below:
		return -1
	case !p.below && o.below:
		return 1
	case p.below:
		return o.far.compare(p.far)
	}
	return p.far.compare(o.far)
}

func (p plain) plus(o plain) plain {
	switch {
	case p.below == o.below:
		return plain{p.below, p.far.plus(o.far, 1)}
	case p.far.compare(o.far) > 0:
		return plain{p.below, p.far.plus(o.far, -1)}
	case p.far.compare(o.far) < 0:
		return plain{o.below, o.far.plus(p.far, -1)}
	}
	return plain{}
}

func (p plain) times(o plain) plain {
	product := p.far.times(o.far)
	return plain{p.below != o.below && len(product) > 0, product}
}

func (p plain) text() string {
	if len(p.far) == 0 {
		return "0"
	}
	text := []byte{}
	if p.below {
		text = append(text, '-')
	}
	for _, digit := range slices.Backward(p.far) {
		text = append(text, byte('0'+digit))
	}
	return string(text)
}

// The plain ways are themselves held against small numbers.
func TestPlain(t *testing.T) {
	of := func(x int) plain { return plainOf(x < 0, []uint64{uint64(max(x, -x))}) }
	small := []int{0, 1, -1, 2, -2, 9, -9, 10, -10, 99, -100, 101, 999, -1000, 123456789, -987654321}
	for _, a := range small {
		for _, b := range small {
			if of(a).plus(of(b)).text() != of(a+b).text() || of(a).times(of(b)).text() != of(a*b).text() {
				t.Error("plus, times", a, b)
			}
			if of(a).compare(of(b)) != sign(a-b) || of(a).neg().text() != of(-a).text() {
				t.Error("compare, neg", a, b)
			}
		}
	}
	for x, want := range map[int]string{0: "0", -7: "-7", 120: "120", minInt + 1: "-9223372036854775807"} {
		if of(x).text() != want {
			t.Error(x, of(x).text())
		}
	}
	if text := plainOf(true, []uint64{0, 1, 0}).text(); text != "-18446744073709551616" {
		t.Error(text)
	}
}

// residues is what is left of a number over three primes.
type residues [3]uint64

func primes() residues {
	return residues{4294967291, 4294967279, 65521}
}

func residuesOf(i whole.Int) residues {
	left := residues{}
	for j, p := range primes() {
		for _, x := range slices.Backward(i.Abs().Limbs()) {
			left[j] = (left[j]<<32 | x>>32) % p
			left[j] = (left[j]<<32 | x&(1<<32-1)) % p
		}
		if i.Sign() < 0 {
			left[j] = (p - left[j]) % p
		}
	}
	return left
}

func residuesOfText(text string) residues {
	digits, below := strings.CutPrefix(text, "-")
	left := residues{}
	for j, p := range primes() {
		for _, digit := range []byte(digits) {
			left[j] = (left[j]*10 + uint64(digit-'0')) % p
		}
		if below {
			left[j] = (p - left[j]) % p
		}
	}
	return left
}

func (r residues) plus(o residues) residues {
	for i, p := range primes() {
		r[i] = (r[i] + o[i]) % p
	}
	return r
}

func (r residues) times(o residues) residues {
	for i, p := range primes() {
		r[i] = r[i] * o[i] % p
	}
	return r
}

// mixed tells numbers without an order, the same ones in every run.
type mixed uint64

func (x *mixed) next() uint64 {
	*x += 0x9e3779b97f4a7c15
	z := uint64(*x)
	z = (z ^ z>>30) * 0xbf58476d1ce4e5b9
	z = (z ^ z>>27) * 0x94d049bb133111eb
	return z ^ z>>31
}

// list has just n limbs, the highest not 0; some are 0 or the greatest.
func (x *mixed) list(n int) []uint64 {
	l := make([]uint64, n)
	for i := range l {
		switch x.next() % 4 {
		case 0:
			l[i] = 0
		case 1:
			l[i] = m
		default:
			l[i] = x.next()
		}
	}
	if n > 0 {
		l[n-1] |= 1 << (x.next() % 64)
	}
	return l
}

func repeated(x uint64, n int) []uint64 {
	return slices.Repeat([]uint64{x}, n)
}

func noughts(n int) string {
	return strings.Repeat("0", n)
}

// manyLists are short numbers; the first is 0.
func manyLists() [][]uint64 {
	lists := [][]uint64{
		nil, {1}, {2}, {3}, {7}, {9}, {10}, {100}, {1 << 32}, {1<<63 - 1}, {1 << 63}, {1<<63 + 1}, {m - 1}, {m},
		{0, 1}, {1, 1}, {m, m}, {0, 0, 1}, {m, 0, m}, {0, 0, 0, 1}, repeated(m, 5),
	}
	x := mixed(1)
	for i := range 12 {
		lists = append(lists, x.list(1+i%6))
	}
	return lists
}

// longest are numbers of MaxLimbs limbs; the first is the greatest.
func longest() [][]uint64 {
	x := mixed(2)
	return [][]uint64{
		repeated(m, most), append(make([]uint64, most-1), 1<<63), append(make([]uint64, most-1), 1), x.list(most),
	}
}

func far(t *testing.T, l ...uint64) nat.Nat {
	t.Helper()
	n, e := nat.Of(l)
	if e != api.OK {
		t.Fatalf("Of a list of %d: %d", len(l), e)
	}
	return n
}

// short keeps what a test tells legible.
func short(text string) string {
	if len(text) <= 60 {
		return text
	}
	return text[:30] + ".." + text[len(text)-28:]
}

// wantNumber asks for the sign and the limbs; 0 has no sign.
func wantNumber(t *testing.T, i whole.Int, sign int, limbs []uint64, what string) {
	t.Helper()
	if i.Sign() != sign || !slices.Equal(i.Abs().Limbs(), limbs) {
		t.Errorf("%s has the sign %d and %d bits, want %d and %d limbs", what, i.Sign(), i.Abs().Bits(), sign, len(limbs))
	}
}

// wantPlain asks by sign and text, and that 0 is 0.
func wantPlain(t *testing.T, i whole.Int, want plain, what string) {
	t.Helper()
	wantSign := 0
	if len(want.far) > 0 {
		wantSign = 1
	}
	if want.below {
		wantSign = -1
	}
	if got := plainOf(i.Sign() < 0, i.Abs().Limbs()).text(); got != want.text() || i.Sign() != wantSign {
		t.Errorf("%s is %s with the sign %d, want %s", what, got, i.Sign(), want.text())
	}
}

func wantOK(t *testing.T, e api.Errno, what string) {
	t.Helper()
	if e != api.OK {
		t.Errorf("%s: error %d", what, e)
	}
}

// wantRefused: the error, and 0 beside it.
func wantRefused(t *testing.T, i whole.Int, e, want api.Errno, what string) {
	t.Helper()
	if e != want || i.Sign() != 0 || len(i.Abs().Limbs()) > 0 {
		t.Errorf("%s has the sign %d and %d bits, error %d, want 0 and error %d", what, i.Sign(), i.Abs().Bits(), e, want)
	}
}

func wantSame(t *testing.T, a, b whole.Int, what string) {
	t.Helper()
	if a.Sign() != b.Sign() || !slices.Equal(a.Abs().Limbs(), b.Abs().Limbs()) || whole.Compare(a, b) != 0 {
		t.Errorf("%s: a number of the sign %d and %d bits, and one of %d and %d", what, a.Sign(), a.Abs().Bits(), b.Sign(), b.Abs().Bits())
	}
}

// pair is a number and what it must be.
type pair struct {
	got  whole.Int
	want plain
}

// somePairs are short numbers on both sides of 0, 0 made with a - too.
func somePairs(t *testing.T) []pair {
	t.Helper()
	pairs := []pair{{}}
	for _, l := range manyLists() {
		for _, below := range []bool{false, true} {
			pairs = append(pairs, pair{whole.New(below, far(t, l...)), plainOf(below, l)})
		}
	}
	return pairs
}

// longNumbers are of MaxLimbs limbs, on both sides of 0; the first two are
// those farthest from it.
func longNumbers(t *testing.T) []whole.Int {
	t.Helper()
	numbers := []whole.Int{}
	for _, l := range longest() {
		numbers = append(numbers, whole.New(false, far(t, l...)), whole.New(true, far(t, l...)))
	}
	return numbers
}
