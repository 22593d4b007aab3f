package exchange_test

// What the tests hold the package against: a list of quotes as they were put, which
// is gone through from end to end for each question; floats as numbers are those of
// math/big. Nothing of the package is in it.

import (
	"fmt"
	"math"
	"math/big"
	"slices"
	"testing"

	"tollbook/api"
	"tollbook/exchange"
	"tollbook/rat"
)

// lastDay is 31 December 9999, most how many quotes a table has.
const (
	lastDay = 3652058
	most    = 4096
)

// plain has the quotes of a table, no two of one key, in any order.
type plain []api.Quote

// rightCodes are codes, wrongCodes none.
func rightCodes() []string {
	return []string{"EUR", "USD", "AAA", "ZZZ", "AZA", "EUS"}
}

func wrongCodes() []string {
	return []string{"", "E", "EU", "EURO", "EURUSD", "eur", "Eur", "EUr", "eUR", "EU1", "1EU", "E R", "EU ", " EU", " EUR", "EUR ", "EUR\n", "EU_", "EU.",
		"EU@", "EU[", "@UR", "[UR", "E@R", "E[R", "\x00\x00\x00", "EU\x00", "EUR\x00", "\xff\xff\xff", "EÜ", "ÄUR", "€", string(make([]byte, 70000))}
}

func wrongDays() []api.Date {
	return []api.Date{-1, -2, -3652058, math.MinInt, math.MinInt + 1, -1 << 32, 1 << 32, 1<<32 + 5, lastDay + 1, lastDay + 2, math.MaxInt, math.MaxInt - 1}
}

// noRates are no numbers above 0, or infinite; farRates are, but too small or too
// great.
func noRates() []float64 {
	return []float64{math.NaN(), -math.NaN(), math.Float64frombits(0x7ff0000000000001), math.Float64frombits(0xfff8000000000000), math.Inf(1), math.Inf(-1), 0, math.Copysign(0, -1),
		-1, -0.5, -math.SmallestNonzeroFloat64, -math.MaxFloat64, -1.0 / (1 << 20), -1 << 20}
}

func farRates() []float64 {
	return []float64{math.SmallestNonzeroFloat64, 0x1p-1022, 0x1p-22, 0x1p-21, math.Nextafter(0x1p-20, 0), 9e-7, math.Nextafter(0x1p20, 0x1p21), 1048576.0000000002, 0x1p21, 1048577, 1e300, math.MaxFloat64}
}

func rightRates() []float64 {
	return []float64{0x1p-20, math.Nextafter(0x1p-20, 1), 1e-6, 0.1, 0.5, 1.0 / 3, math.Nextafter(1, 0), 1, math.Nextafter(1, 2), 1.25, 3, 99.99, 1e6, math.Nextafter(0x1p20, 0), 0x1p20}
}

func isCode(s string) bool {
	if len(s) != 3 {
		return false
	}
	for i := range 3 {
		if s[i] < 'A' || s[i] > 'Z' {
			return false
		}
	}
	return true
}

func sameKey(a, b api.Quote) bool {
	return a.From == b.From && a.To == b.To && a.Date == b.Date
}

// place is where the quote of that key stands, or -1.
func (l plain) place(q api.Quote) int {
	return slices.IndexFunc(l, func(o api.Quote) bool { return sameKey(o, q) })
}

func (l plain) put(q api.Quote) (plain, api.Errno) {
	switch at := l.place(q); {
	case !isCode(q.From), !isCode(q.To), q.From == q.To:
		return l, api.ErrCurrency
	case q.Date < 0, q.Date > lastDay:
		return l, api.ErrDate
	case math.IsNaN(q.Rate), math.IsInf(q.Rate, 0), q.Rate <= 0:
		return l, api.ErrReal
	case q.Rate < 0x1p-20, q.Rate > 0x1p20:
		return l, api.ErrRate
	case at >= 0:
		changed := slices.Clone(l)
		changed[at] = q
		return changed, api.OK
	case len(l) == most:
		return l, api.ErrFull
	}
	return append(slices.Clip(l), q), api.OK
}

// rate goes from day to day backwards in what the quotes say, each day first for
// those there, then for those back.
func (l plain) rate(from, to string, d api.Date) (*big.Rat, api.Errno) {
	switch {
	case !isCode(from), !isCode(to):
		return nil, api.ErrCurrency
	case d < 0, d > lastDay:
		return nil, api.ErrDate
	case from == to:
		return big.NewRat(1, 1), api.OK
	}
	best := api.Quote{Date: -1}
	for _, q := range l {
		if q.From == to && q.To == from && q.Date <= d && q.Date > best.Date {
			best = q
		}
	}
	for _, q := range l {
		if q.From == from && q.To == to && q.Date <= d && q.Date >= best.Date {
			best = q
		}
	}
	if best.Date < 0 {
		return nil, api.ErrRate
	}
	r := new(big.Rat).SetFloat64(best.Rate)
	if best.From == to {
		r.Inv(r)
	}
	return r, api.OK
}

// sorted are the quotes as they are told.
func (l plain) sorted() []api.Quote {
	list := slices.Clone(l)
	slices.SortFunc(list, func(a, b api.Quote) int {
		ka, kb := fmt.Sprintf("%s %s %09d", a.From, a.To, a.Date), fmt.Sprintf("%s %s %09d", b.From, b.To, b.Date)
		switch {
		case ka < kb:
			return -1
		case ka > kb:
			return 1
		}
		return 0
	})
	return list
}

func limbsOf(list []uint64) *big.Int {
	n := new(big.Int)
	for i := len(list) - 1; i >= 0; i-- {
		n.Lsh(n, 64).Or(n, new(big.Int).SetUint64(list[i]))
	}
	return n
}

// ratOf is what a number's normal ratio says; nil, if that is not normal.
func ratOf(r rat.Rat) *big.Rat {
	p := r.Plain()
	num, den := limbsOf(p.Num), limbsOf(p.Den)
	if den.Sign() == 0 {
		return nil
	}
	if p.Neg {
		num.Neg(num)
	}
	told := new(big.Rat).SetFrac(num, den)
	if told.Num().Cmp(num) != 0 || told.Denom().Cmp(den) != 0 {
		return nil
	}
	return told
}

func table(t *testing.T, quotes ...api.Quote) *exchange.Table {
	t.Helper()
	x := exchange.New()
	for _, q := range quotes {
		if e := x.Put(q); e != api.OK {
			t.Fatalf("Put(%v): error %d", q, e)
		}
	}
	return x
}

func quote(from, to string, d api.Date, rate float64) api.Quote {
	return api.Quote{From: from, To: to, Date: d, Rate: rate}
}

// example is the chapter's table.
func example() []api.Quote {
	return []api.Quote{quote("EUR", "USD", 100, 1.25), quote("USD", "EUR", 200, 0.5), quote("EUR", "USD", 200, 2.5), quote("EUR", "GBP", 0, 0.1)}
}

func wantRate(t *testing.T, x *exchange.Table, from, to string, d api.Date, want *big.Rat) {
	t.Helper()
	r, e := x.Rate(from, to, d)
	if told := ratOf(r); e != api.OK || told == nil || told.Cmp(want) != 0 {
		t.Fatalf("Rate(%s, %s, %d): %v, error %d; wanted %v", from, to, d, told, e, want)
	}
}

func wantNoRate(t *testing.T, x *exchange.Table, from, to string, d api.Date, want api.Errno) {
	t.Helper()
	if r, e := x.Rate(from, to, d); e != want || r.Sign() != 0 {
		t.Fatalf("Rate(%.9q, %.9q, %d): %v, error %d; wanted error %d", from, to, d, ratOf(r), e, want)
	}
}

// wantAsPlain asks a table for one rate.
func wantAsPlain(t *testing.T, x *exchange.Table, l plain, from, to string, d api.Date) {
	t.Helper()
	if want, e := l.rate(from, to, d); e == api.OK {
		wantRate(t, x, from, to, d, want)
	} else {
		wantNoRate(t, x, from, to, d, e)
	}
}

func wantQuotes(t *testing.T, x *exchange.Table, want []api.Quote) {
	t.Helper()
	got := x.Quotes()
	if len(got) != len(want) {
		t.Fatalf("%d quotes, wanted %d", len(got), len(want))
	}
	for i := range got {
		if got[i] != want[i] {
			t.Fatalf("the quote %d: %v, wanted %v", i, got[i], want[i])
		}
	}
}

// wantTable asks a table for all its quotes, and for the rates on and about each
// of their days.
func wantTable(t *testing.T, x *exchange.Table, l plain) {
	t.Helper()
	wantQuotes(t, x, l.sorted())
	for _, q := range l {
		for d := q.Date - 1; d <= q.Date+1; d++ {
			wantAsPlain(t, x, l, q.From, q.To, d)
			wantAsPlain(t, x, l, q.To, q.From, d)
		}
		wantAsPlain(t, x, l, q.From, q.To, lastDay)
		wantAsPlain(t, x, l, q.To, q.From, lastDay)
	}
}

// wantPut puts a quote to both, and wants the same answer; what is so then is
// answered.
func wantPut(t *testing.T, x *exchange.Table, l plain, q api.Quote) plain {
	t.Helper()
	next, want := l.put(q)
	if e := x.Put(q); e != want {
		t.Fatalf("Put({%.9q %.9q %d %v}) to %d quotes: error %d, wanted %d", q.From, q.To, q.Date, q.Rate, len(l), e, want)
	}
	return next
}

// code is the number n, below 26^3, in capital letters.
func code(n int) string {
	return string([]byte{byte('A' + n/676%26), byte('A' + n/26%26), byte('A' + n%26)})
}

// dice rolls the same numbers in each run.
type dice uint64

func (d *dice) next() uint64 {
	*d ^= *d << 13
	*d ^= *d >> 7
	*d ^= *d << 17
	return uint64(*d)
}

func (d *dice) below(n int) int {
	return int(d.next() % uint64(n))
}

// rate is one that may be, of any power of two in between.
func (d *dice) rate() float64 {
	return math.Ldexp(1+float64(d.next()>>12)/(1<<52), d.below(40)-20)
}

// mixed are the same quotes in some order.
func (d *dice) mixed(list []api.Quote) []api.Quote {
	list = slices.Clone(list)
	for i := range list {
		j := d.below(i + 1)
		list[i], list[j] = list[j], list[i]
	}
	return list
}

// quote is one of a few currencies on a few days.
func (d *dice) quote(codes, days int) api.Quote {
	from := d.below(codes)
	to := (from + 1 + d.below(codes-1)) % codes
	return api.Quote{From: code(from), To: code(to), Date: api.Date(d.below(days)), Rate: d.rate()}
}

// The plain ways are themselves held against what anyone sees.
func TestPlain(t *testing.T) {
	var l plain
	for _, q := range example() {
		l, _ = l.put(q)
	}
	for _, c := range []struct {
		from, to string
		d        api.Date
		want     string
		err      api.Errno
	}{{"EUR", "USD", 99, "", api.ErrRate}, {"EUR", "USD", 100, "5/4", 0}, {"USD", "EUR", 199, "4/5", 0}, {"EUR", "USD", 200, "5/2", 0}, {"USD", "EUR", 250, "1/2", 0}, {"CHF", "CHF", 5, "1/1", 0}, {"EUR", "usd", 0, "", api.ErrCurrency}, {"EUR", "EUR", -1, "", api.ErrDate}} {
		r, e := l.rate(c.from, c.to, c.d)
		if e != c.err || r != nil && r.String() != c.want {
			t.Errorf("%v: %v, %d", c, r, e)
		}
	}
	again, e := l.put(api.Quote{From: "EUR", To: "USD", Date: 100, Rate: 2})
	if e != api.OK || len(again) != 4 || l[0].Rate != 1.25 || again[0].Rate != 2 || again.sorted()[0].To != "GBP" {
		t.Errorf("%v, %d", again, e)
	}
	if code(0) != "AAA" || code(27) != "ABB" || code(26*26*26-1) != "ZZZ" {
		t.Error("codes")
	}
	if r, _ := rat.Small(-6, 4); ratOf(r).String() != "-3/2" {
		t.Error(ratOf(r))
	}
	for _, s := range rightCodes() {
		if !isCode(s) {
			t.Errorf("%q", s)
		}
	}
	for _, s := range wrongCodes() {
		if isCode(s) {
			t.Errorf("%q", s)
		}
	}
	roll := dice(3)
	for range 1000 {
		if r := roll.rate(); r < 0x1p-20 || r >= 0x1p20 {
			t.Fatal(r)
		}
	}
}
