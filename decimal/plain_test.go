package decimal_test

// What the tests hold the package against: numbers of 64 and 128 bits, digits
// one by one, division as it is learned at school; for long ratios the layers
// below, with nothing of the package in it.

import (
	"math/bits"
	"strconv"
	"strings"
	"testing"

	"tollbook/api"
	"tollbook/nat"
	"tollbook/numeral"
	"tollbook/rat"
	"tollbook/whole"
)

const (
	maxInt = 1<<63 - 1
	minInt = -1 << 63
)

func dec(units int64, places int) api.Dec {
	return api.Dec{Units: units, Places: places}
}

// someUnits are small ones, those around powers of ten, and both ends.
func someUnits() []int64 {
	units := []int64{0, maxInt, maxInt - 1, maxInt - 7, minInt, minInt + 1, minInt + 8, 1 << 32, -1 << 32, 123456789, 1234567890123456789}
	for u := int64(1); u <= 130; u++ {
		units = append(units, u, -u)
	}
	for ten := int64(100); ten < maxInt/10; ten *= 10 {
		for _, u := range []int64{ten - 1, ten, ten + 1, 5 * ten, 9*ten - 10} {
			units = append(units, u, -u)
		}
	}
	x := mixed(1)
	for n := range 60 {
		units = append(units, int64(x.next())>>n)
	}
	return append(units, 1e18, -1e18, 9e18, -9e18, 9223372036854775800, -9223372036854775800)
}

// mayBe asks as the chapter does.
func mayBe(d api.Dec) bool {
	return 0 <= d.Places && d.Places <= 9 && (d.Places == 0 || !strings.HasSuffix(strconv.FormatInt(d.Units, 10), "0"))
}

// someDecs are all that may be of someUnits.
func someDecs() []api.Dec {
	decs := []api.Dec{}
	for _, units := range someUnits() {
		for places := range 10 {
			if d := dec(units, places); mayBe(d) {
				decs = append(decs, d)
			}
		}
	}
	return decs
}

// wrongDecs may not be.
func wrongDecs() []api.Dec {
	decs := []api.Dec{}
	for _, units := range []int64{0, 10, -10, 100, 1e18, -9e18, 20, 9223372036854775800} {
		for places := 1; places <= 9; places++ {
			decs = append(decs, dec(units, places))
		}
	}
	for _, places := range []int{-1, 10, -9, 11, 19, 64, 4096, 1 << 32, -1 << 32, 1<<32 + 1, maxInt, minInt} {
		for _, units := range []int64{0, 1, -5, 10, 25, maxInt, minInt} {
			decs = append(decs, dec(units, places))
		}
	}
	return decs
}

func far(x int64) uint64 {
	if x < 0 {
		return -uint64(x)
	}
	return uint64(x)
}

func tenTo(n int) uint64 {
	ten := uint64(1)
	for range n {
		ten *= 10
	}
	return ten
}

// plainCompare has both with nine places, of 128 bits.
func plainCompare(a, b api.Dec) int {
	if (a.Units < 0) != (b.Units < 0) {
		if a.Units < 0 {
			return -1
		}
		return 1
	}
	highA, lowA := bits.Mul64(far(a.Units), tenTo(9-a.Places))
	highB, lowB := bits.Mul64(far(b.Units), tenTo(9-b.Places))
	if a.Units < 0 {
		highA, lowA, highB, lowB = highB, lowB, highA, lowA
	}
	switch {
	case highA < highB || highA == highB && lowA < lowB:
		return -1
	case highA == highB && lowA == lowB:
		return 0
	}
	return 1
}

// plainText has the digits one by one, the last one first.
func plainText(d api.Dec) string {
	text, left := "", far(d.Units)
	for at := 0; at <= d.Places || left > 0; at++ {
		if at == d.Places && at > 0 {
			text = "." + text
		}
		text = string(rune('0'+left%10)) + text
		left /= 10
	}
	if d.Units < 0 {
		return "-" + text
	}
	return text
}

// plainParse goes through a text byte by byte, and keeps what it waits for.
func plainParse(s string) (api.Dec, int, api.Errno) {
	state := "begin"
	sign, number, places := "", "", 0
	for at := range len(s) {
		digit := strings.IndexByte("0123456789", s[at]) >= 0
		switch {
		case s[at] == '-' && state == "begin":
			state, sign = "first", "-"
		case digit && (state == "begin" || state == "first" || state == "ahead"):
			state, number = "ahead", number+s[at:at+1]
		case s[at] == '.' && state == "ahead":
			state = "point"
		case digit && (state == "point" || state == "behind"):
			state, number, places = "behind", number+s[at:at+1], places+1
		default:
			return api.Dec{}, at, api.ErrDecimal
		}
	}
	if state != "ahead" && state != "behind" {
		return api.Dec{}, len(s), api.ErrDecimal
	}
	for places > 0 && number[len(number)-1] == '0' {
		number, places = number[:len(number)-1], places-1
	}
	units, err := strconv.ParseInt(sign+number, 10, 64)
	if err != nil || places > 9 {
		return api.Dec{}, 0, api.ErrOver
	}
	return dec(units, places), 0, api.OK
}

// plainExpand divides as it is learned at school; num's ten times must be of
// 64 bits, and den's.
func plainExpand(num, den int64, places int) (string, bool) {
	left := far(num) % uint64(den)
	text := strconv.FormatUint(far(num)/uint64(den), 10)
	if num < 0 {
		text = "-" + text
	}
	var behind strings.Builder
	for range places {
		behind.WriteByte(byte('0' + left*10/uint64(den)))
		left = left * 10 % uint64(den)
	}
	if places > 0 {
		text += "." + behind.String()
	}
	return text, left == 0
}

// plainOf tries all places, the fewest first; 10^9 times num must be of 64 bits.
func plainOf(num, den int64) (api.Dec, api.Errno) {
	for places := range 10 {
		if scaled := num * int64(tenTo(places)); scaled%den == 0 {
			return dec(scaled/den, places), api.OK
		}
	}
	return api.Dec{}, api.ErrEndless
}

func ratio(t *testing.T, num, den int64) rat.Rat {
	t.Helper()
	r, e := rat.Small(num, den)
	wantOK(t, e, "rat.Small")
	return r
}

// number is of digits with perhaps a - ahead.
func number(t *testing.T, text string) whole.Int {
	t.Helper()
	i, _, e := whole.Parse(text)
	wantOK(t, e, "whole.Parse")
	return i
}

func over(t *testing.T, num, den string) rat.Rat {
	t.Helper()
	r, e := rat.New(number(t, num), number(t, den))
	wantOK(t, e, "rat.New")
	return r
}

func noughts(n int) string {
	return strings.Repeat("0", n)
}

// ten is 10^n as a text.
func ten(n int) string {
	return "1" + noughts(n)
}

// greatest is the greatest number of 1024 limbs, as a text.
func greatest(t *testing.T) string {
	t.Helper()
	power, e := nat.Left(nat.Small(1), 64*api.MaxRatio)
	wantOK(t, e, "nat.Left")
	n, e := nat.Sub(power, nat.Small(1))
	wantOK(t, e, "nat.Sub")
	text, e := numeral.Text(n, 10)
	wantOK(t, e, "numeral.Text")
	return text
}

func wantOK(t *testing.T, e api.Errno, what string) {
	t.Helper()
	if e != api.OK {
		t.Errorf("%s: error %d", what, e)
	}
}

// short is a text that can be told in a report.
func short(s string) string {
	if len(s) > 70 {
		return s[:30] + " .. " + s[len(s)-30:]
	}
	return s
}

// mixed tells numbers without an order, the same ones in every run.
type mixed uint64

func (x *mixed) next() uint64 {
	*x += 0x9e3779b97f4a7c15
	z := uint64(*x)
	z = (z ^ z>>30) * 0xbf58476d1ce4e5b9
	z = (z ^ z>>27) * 0x94d049bb133111eb
	return z ^ z>>31
}

// digits is a row of them, without an order.
func (x *mixed) digits(n int) string {
	row := make([]byte, n)
	for i := range row {
		row[i] = byte('0' + x.next()%10)
	}
	return string(row)
}

// The plain ways are themselves held against what anyone knows.
func TestPlain(t *testing.T) {
	if plainText(dec(-5, 2)) != "-0.05" || plainText(dec(1230, 0)) != "1230" || plainText(dec(123, 3)) != "0.123" || plainText(dec(0, 0)) != "0" || plainText(dec(minInt, 9)) != "-9223372036.854775808" {
		t.Error("plainText")
	}
	if plainCompare(dec(25, 1), dec(3, 0)) != -1 || plainCompare(dec(-25, 1), dec(-3, 0)) != 1 || plainCompare(dec(-1, 9), dec(0, 0)) != -1 || plainCompare(dec(7, 0), dec(7, 0)) != 0 || plainCompare(dec(maxInt, 0), dec(maxInt, 1)) != 1 || plainCompare(dec(0, 0), dec(-3, 1)) != 1 {
		t.Error("plainCompare")
	}
	if d, at, e := plainParse("-02.50"); d != dec(-25, 1) || at != 0 || e != api.OK {
		t.Error("plainParse")
	}
	if _, at, e := plainParse("1.2.3"); at != 3 || e != api.ErrDecimal {
		t.Error("plainParse of a text that is wrong")
	}
	if text, just := plainExpand(-22, 7, 3); text != "-3.142" || just {
		t.Error("plainExpand")
	}
	if d, e := plainOf(5, 2); d != dec(25, 1) || e != api.OK {
		t.Error("plainOf")
	}
	if len(someDecs()) < 2000 || len(wrongDecs()) < 100 || len(greatest(t)) != 19729 {
		t.Error("what is tried")
	}
	for _, d := range wrongDecs() {
		if mayBe(d) {
			t.Errorf("%v may be", d)
		}
	}
}
