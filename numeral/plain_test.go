package numeral_test

// What the tests hold the package against: texts of short numbers reckoned
// digit by digit, in the plainest way, with nothing of the package in it; and,
// for long numbers, what is left of them over primes.

import (
	"math"
	"slices"
	"strings"
	"testing"

	"tollbook/api"
	"tollbook/nat"
	"tollbook/numeral"
)

const (
	m        = 1<<64 - 1
	maxInt   = 1<<63 - 1
	minInt   = -1 << 63
	most     = api.MaxLimbs
	alphabet = "0123456789abcdefghijklmnopqrstuvwxyz"
)

// plainText divides by the base until nothing is left.
func plainText(l []uint64, base int) string {
	halves := []uint64{}
	for _, x := range slices.Backward(l) {
		halves = append(halves, x>>32, x&(1<<32-1))
	}
	text := []byte{}
	for {
		for len(halves) > 0 && halves[0] == 0 {
			halves = halves[1:]
		}
		if len(halves) == 0 {
			break
		}
		rest := uint64(0)
		for i, x := range halves {
			x |= rest << 32
			halves[i], rest = x/uint64(base), x%uint64(base)
		}
		text = append(text, alphabet[rest])
	}
	if len(text) == 0 {
		return "0"
	}
	slices.Reverse(text)
	return string(text)
}

// bitText goes bit by bit; the base is 2 to the power width.
func bitText(l []uint64, width int) string {
	text := []byte{}
	for low := 0; low < 64*len(l); low += width {
		worth := uint64(0)
		for i := low; i < min(low+width, 64*len(l)); i++ {
			worth |= l[i/64] >> (i % 64) & 1 << (i - low)
		}
		text = append(text, alphabet[worth])
	}
	slices.Reverse(text)
	return strings.TrimLeft(string(text), "0")
}

// next is the numeral of the number behind the one that the text says.
func next(text string, base int) string {
	digits := []byte(text)
	for i := len(digits) - 1; i >= 0; i-- {
		worth := strings.IndexByte(alphabet, digits[i]) + 1
		if worth < base {
			digits[i] = alphabet[worth]
			return string(digits)
		}
		digits[i] = '0'
	}
	return "1" + string(digits)
}

func worths(text string) uint64 {
	sum := 0
	for i := range len(text) {
		sum += strings.IndexByte(alphabet, text[i])
	}
	return uint64(sum)
}

// The plain ways are themselves held against small numbers.
func TestPlain(t *testing.T) {
	for _, c := range []struct {
		l    []uint64
		base int
		want string
	}{
		{nil, 7, "0"}, {[]uint64{255}, 16, "ff"}, {[]uint64{1295}, 36, "zz"}, {[]uint64{8}, 2, "1000"},
		{[]uint64{0, 1}, 10, "18446744073709551616"}, {[]uint64{m, m}, 10, "340282366920938463463374607431768211455"},
		{[]uint64{0, 0, 1}, 16, "1" + noughts(32)},
	} {
		if got := plainText(c.l, c.base); got != c.want {
			t.Errorf("%x to the base %d: %s", c.l, c.base, got)
		}
	}
	for width := 1; width <= 5; width++ {
		for _, l := range manyLists()[1:] {
			if got, want := bitText(l, width), plainText(l, 1<<width); got != want {
				t.Errorf("%x, width %d: %s, want %s", l, width, got, want)
			}
		}
	}
	if next("19", 10) != "20" || next("zz", 36) != "100" || next("0", 2) != "1" || worths("1z0") != 36 {
		t.Error("next, worths")
	}
}

// residues is what is left of a number over three primes.
type residues [3]uint64

func primes() residues {
	return residues{4294967291, 4294967279, 65521}
}

func residuesOf(l []uint64) residues {
	left := residues{}
	for i, p := range primes() {
		for _, x := range slices.Backward(l) {
			left[i] = (left[i]<<32 | x>>32) % p
			left[i] = (left[i]<<32 | x&(1<<32-1)) % p
		}
	}
	return left
}

func residuesOfText(text string, base int) residues {
	left := residues{}
	for i, p := range primes() {
		for j := range len(text) {
			left[i] = (left[i]*uint64(base) + uint64(strings.IndexByte(alphabet, text[j]))) % p
		}
	}
	return left
}

// mixed tells numbers without an order, the same ones in every run.
type mixed uint64

func (x *mixed) next() uint64 {
	*x += 0x9e3779b97f4a7c15
	z := uint64(*x)
	z = (z ^ z>>30) * 0xbf58476d1ce4e5b9
	z = (z ^ z>>27) * 0x94d049bb133111eb
	return z ^ z>>31
}

// list has just n limbs, the highest not 0; some are 0 or the greatest.
func (x *mixed) list(n int) []uint64 {
	l := make([]uint64, n)
	for i := range l {
		switch x.next() % 4 {
		case 0:
			l[i] = 0
		case 1:
			l[i] = m
		default:
			l[i] = x.next()
		}
	}
	if n > 0 {
		l[n-1] |= 1 << (x.next() % 64)
	}
	return l
}

func repeated(x uint64, n int) []uint64 {
	return slices.Repeat([]uint64{x}, n)
}

func noughts(n int) string {
	return strings.Repeat("0", n)
}

// manyLists are short numbers; the first is 0.
func manyLists() [][]uint64 {
	lists := [][]uint64{
		nil, {1}, {2}, {9}, {10}, {35}, {36}, {37}, {1 << 32}, {m - 1}, {m},
		{0, 1}, {1, 1}, {m, m}, {0, 0, 1}, {m, 0, m}, {0, 0, 0, 0, 1}, repeated(m, 9),
	}
	x := mixed(1)
	for i := range 24 {
		lists = append(lists, x.list(1+i%12))
	}
	return lists
}

// longest are numbers of MaxLimbs limbs; the first is the greatest.
func longest() [][]uint64 {
	x := mixed(2)
	return [][]uint64{
		repeated(m, most), append(make([]uint64, most-1), 1<<63), append(make([]uint64, most-1), 1), x.list(most),
	}
}

func bases() []int {
	all := []int{}
	for base := 2; base <= 36; base++ {
		all = append(all, base)
	}
	return all
}

// basesFor are all for short numbers, and for long ones, which take their
// time, the outermost ones and some between.
func basesFor(n nat.Nat) []int {
	if n.Bits() < 64*200 {
		return bases()
	}
	return []int{2, 3, 10, 16, 36}
}

func wrongBases() []int {
	return []int{1, 37, 0, -1, -2, -10, -36, 38, 62, 64, 256 + 10, 1<<32 + 10, maxInt, minInt, minInt + 10}
}

// lastPower is the greatest power of the base that is not long.
func lastPower(t *testing.T, base int) int {
	t.Helper()
	k := int(64 * most / math.Log2(float64(base)))
	if base&(base-1) == 0 && k*int(math.Log2(float64(base))) == 64*most {
		k--
	}
	if _, e := nat.Pow(nat.Small(uint64(base)), k+1); e != api.ErrLong {
		t.Fatalf("%d^%d is not long", base, k+1)
	}
	return k
}

func of(t *testing.T, l ...uint64) nat.Nat {
	t.Helper()
	n, e := nat.Of(l)
	if e != api.OK {
		t.Fatalf("Of a list of %d: %d", len(l), e)
	}
	return n
}

func power(t *testing.T, base, k int) nat.Nat {
	t.Helper()
	n, e := nat.Pow(nat.Small(uint64(base)), k)
	if e != api.OK {
		t.Fatalf("%d^%d: %d", base, k, e)
	}
	return n
}

func less(t *testing.T, a nat.Nat, b uint64) nat.Nat {
	t.Helper()
	n, e := nat.Sub(a, nat.Small(b))
	if e != api.OK {
		t.Fatal("Sub", e)
	}
	return n
}

func more(t *testing.T, a nat.Nat, b uint64) nat.Nat {
	t.Helper()
	n, e := nat.Add(a, nat.Small(b))
	if e != api.OK {
		t.Fatal("Add", e)
	}
	return n
}

func textOf(t *testing.T, n nat.Nat, base int) string {
	t.Helper()
	text, e := numeral.Text(n, base)
	if e != api.OK {
		t.Fatalf("Text of %d limbs to the base %d: %d", len(n.Limbs()), base, e)
	}
	return text
}

// short keeps what a test tells legible.
func short(text string) string {
	if len(text) <= 60 {
		return text
	}
	return text[:30] + ".." + text[len(text)-28:]
}

// wantText asks all three calls of P3.1.
func wantText(t *testing.T, n nat.Nat, base int, want string) {
	t.Helper()
	if text, e := numeral.Text(n, base); text != want || e != api.OK {
		t.Errorf("Text to the base %d is %q (%d bytes), %d, want %q (%d)", base, short(text), len(text), e, short(want), len(want))
	}
	if digits, e := numeral.Digits(n, base); digits != len(want) || e != api.OK {
		t.Errorf("Digits of %s to the base %d is %d, %d, want %d", short(want), base, digits, e, len(want))
	}
	sum, e := numeral.Sum(n, base)
	if x, ok := sum.Uint64(); x != worths(want) || !ok || e != api.OK {
		t.Errorf("Sum of %s to the base %d is %d, %d, want %d", short(want), base, x, e, worths(want))
	}
}

func wantParsed(t *testing.T, s string, base int, want nat.Nat) {
	t.Helper()
	n, at, e := numeral.Parse(s, base)
	if nat.Compare(n, want) != 0 || at != 0 || e != api.OK {
		t.Errorf("Parse(%s, %d) is a number of %d bits, %d, %d, want one of %d bits", short(s), base, n.Bits(), at, e, want.Bits())
	}
}

// wantRefused: the error, its place, and 0 beside it.
func wantRefused(t *testing.T, s string, base, at int, err api.Errno) {
	t.Helper()
	n, gotAt, e := numeral.Parse(s, base)
	if !n.IsZero() || len(n.Limbs()) > 0 || gotAt != at || e != err {
		t.Errorf("Parse(%q, %d), %d bytes, is a number of %d bits, %d, %d, want 0, %d, %d", short(s), base, len(s), n.Bits(), gotAt, e, at, err)
	}
}
