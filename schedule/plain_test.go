package schedule_test

// What the tests hold the package against: numbers are those of math/big; what comes
// of an amount is gathered piece by piece from where both overlap, and, of small
// amounts, slice by slice. Nothing of the package is in it.

import (
	"math/big"
	"slices"
	"testing"

	"tollbook/api"
	"tollbook/rat"
	"tollbook/schedule"
)

const (
	m = 1<<64 - 1
	// mostBrackets, mostLimbs and mostBase are what may be, limbBits how long a limb
	// is.
	mostBrackets = 8
	mostLimbs    = 3
	mostBase     = 512
	limbBits     = 64
)

// level is a piece as numbers; plain has those of a schedule.
type level struct {
	above, rate *big.Rat
}

type plain []level

// q is the number that a text like -3, 7/2 or 0.25 says.
func q(text string) *big.Rat {
	r, ok := new(big.Rat).SetString(text)
	if !ok {
		panic(text)
	}
	return r
}

// two is 2 to the power bits, and more put to it.
func two(bits uint, more int64) *big.Rat {
	n := new(big.Int).Lsh(big.NewInt(1), bits)
	return new(big.Rat).SetInt(n.Add(n, big.NewInt(more)))
}

func plus(a, b *big.Rat) *big.Rat  { return new(big.Rat).Add(a, b) }
func minus(a, b *big.Rat) *big.Rat { return new(big.Rat).Sub(a, b) }
func times(a, b *big.Rat) *big.Rat { return new(big.Rat).Mul(a, b) }
func over(a, b *big.Rat) *big.Rat  { return new(big.Rat).Quo(a, b) }
func minusOf(a *big.Rat) *big.Rat  { return new(big.Rat).Neg(a) }

// limbs has the lowest limb first, and no nought at its end.
func limbs(n *big.Int) []uint64 {
	var list []uint64
	for n = new(big.Int).Abs(n); n.Sign() > 0; n.Rsh(n, limbBits) {
		list = append(list, new(big.Int).And(n, new(big.Int).SetUint64(m)).Uint64())
	}
	return list
}

// ratio is a number's normal ratio.
func ratio(r *big.Rat) api.Ratio {
	return api.Ratio{Neg: r.Sign() < 0, Num: limbs(r.Num()), Den: limbs(r.Denom())}
}

// long is how many limbs a number's longer part has.
func long(r *big.Rat) int {
	return max(len(limbs(r.Num())), len(limbs(r.Denom())))
}

func number(t *testing.T, r *big.Rat) rat.Rat {
	t.Helper()
	n, e := rat.Of(ratio(r))
	if e != api.OK {
		t.Fatalf("a number of %d limbs: error %d", long(r), e)
	}
	return n
}

func wordsOf(list []uint64) *big.Int {
	n := new(big.Int)
	for _, limb := range slices.Backward(list) {
		n.Lsh(n, limbBits).Or(n, new(big.Int).SetUint64(limb))
	}
	return n
}

// ofRatio is what a ratio says; nil, if it is not normal.
func ofRatio(p api.Ratio) *big.Rat {
	num, den := wordsOf(p.Num), wordsOf(p.Den)
	if den.Sign() == 0 || p.Neg && num.Sign() == 0 {
		return nil
	}
	if p.Neg {
		num.Neg(num)
	}
	said := new(big.Rat).SetFrac(num, den)
	if !slices.Equal(limbs(said.Num()), p.Num) || !slices.Equal(limbs(said.Denom()), p.Den) {
		return nil
	}
	return said
}

// ofDec is a decimal's worth; nil, if it may not be.
func ofDec(d api.Dec) *big.Rat {
	if d.Places < 0 || d.Places > 9 || d.Places > 0 && d.Units%10 == 0 {
		return nil
	}
	r := new(big.Rat).SetInt64(d.Units)
	for range d.Places {
		r = over(r, q("10"))
	}
	return r
}

// mayBe asks of numbers what the chapter asks of pieces; of brackets it asks the
// same, once their percents are over 100.
func (p plain) mayBe() bool {
	if len(p) < 1 || len(p) > mostBrackets || p[0].above == nil || p[0].above.Sign() != 0 {
		return false
	}
	for i, l := range p {
		if l.above == nil || l.rate == nil || l.rate.Cmp(q("0")) < 0 || l.rate.Cmp(q("1")) > 0 {
			return false
		}
		if i > 0 && l.above.Cmp(p[i-1].above) <= 0 {
			return false
		}
	}
	return true
}

func ofBrackets(brackets []api.Bracket) plain {
	var p plain
	for _, b := range brackets {
		l := level{above: ofDec(b.Above), rate: ofDec(b.Percent)}
		if l.rate != nil {
			l.rate = over(l.rate, q("100"))
		}
		p = append(p, l)
	}
	return p
}

// plainPieces is what Pieces of brackets answers.
func plainPieces(brackets []api.Bracket, unit *big.Rat) (plain, api.Errno) {
	p := ofBrackets(brackets)
	switch {
	case !p.mayBe():
		return nil, api.ErrSchedule
	case unit.Sign() <= 0:
		return nil, api.ErrArg
	}
	for i := range p {
		p[i].above = times(p[i].above, unit)
		if long(p[i].above) > mostLimbs || long(p[i].rate) > mostLimbs {
			return nil, api.ErrLong
		}
	}
	return p, api.OK
}

// plainOf is what Of answers.
func plainOf(pieces []api.Piece) (plain, api.Errno) {
	if len(pieces) < 1 || len(pieces) > mostBrackets {
		return nil, api.ErrSchedule
	}
	var p plain
	isLong := false
	for _, piece := range pieces {
		for _, list := range [][]uint64{piece.Above.Num, piece.Above.Den, piece.Rate.Num, piece.Rate.Den} {
			isLong = isLong || len(list) > mostLimbs
		}
		p = append(p, level{above: ofRatio(piece.Above), rate: ofRatio(piece.Rate)})
	}
	switch {
	case isLong:
		return nil, api.ErrLong
	case !p.mayBe():
		return nil, api.ErrSchedule
	}
	return p, api.OK
}

// at gathers what of base lies in each piece.
func (p plain) at(base *big.Rat) *big.Rat {
	sum := new(big.Rat)
	for i, l := range p {
		end := base
		if i+1 < len(p) && p[i+1].above.Cmp(base) < 0 {
			end = p[i+1].above
		}
		if end.Cmp(l.above) > 0 {
			sum = plus(sum, times(l.rate, minus(end, l.above)))
		}
	}
	return sum
}

// slope goes from the last piece on backwards.
func (p plain) slope(base *big.Rat) *big.Rat {
	for _, l := range slices.Backward(p) {
		if l.above.Cmp(base) <= 0 {
			return l.rate
		}
	}
	return nil
}

// next is nil, if nothing lies above base.
func (p plain) next(base *big.Rat) *big.Rat {
	var least *big.Rat
	for _, l := range p {
		if l.above.Cmp(base) > 0 && (least == nil || l.above.Cmp(least) < 0) {
			least = l.above
		}
	}
	return least
}

// bySlices cuts base into slices of 1/n, and asks for each which piece it lies in.
// All bounds, and base, must be so many of them.
func (p plain) bySlices(base *big.Rat, n int64) *big.Rat {
	sum, slice := new(big.Rat), big.NewRat(1, n)
	for from := new(big.Rat); from.Cmp(base) < 0; from = plus(from, slice) {
		sum = plus(sum, p.slope(from))
	}
	return times(sum, slice)
}

// pieces are the plain schedule's, as they are handed in.
func (p plain) pieces() []api.Piece {
	var list []api.Piece
	for _, l := range p {
		list = append(list, api.Piece{Above: ratio(l.above), Rate: ratio(l.rate)})
	}
	return list
}

// levels are made of texts: a bound, a rate, a bound, a rate ..
func levels(texts ...string) plain {
	var p plain
	for i := 0; i < len(texts); i += 2 {
		p = append(p, level{above: q(texts[i]), rate: q(texts[i+1])})
	}
	return p
}

func dec(units int64, places int) api.Dec {
	return api.Dec{Units: units, Places: places}
}

// brackets are made of whole numbers: a bound, a percent, a bound, a percent ..
func brackets(list ...int64) []api.Bracket {
	var all []api.Bracket
	for i := 0; i < len(list); i += 2 {
		all = append(all, api.Bracket{Above: dec(list[i], 0), Percent: dec(list[i+1], 0)})
	}
	return all
}

// example is the chapter's B, whose pieces with the unit 1 are exampleLevels.
func example() []api.Bracket {
	return []api.Bracket{{Percent: dec(10, 0)}, {Above: dec(100, 0), Percent: dec(20, 0)}, {Above: dec(5005, 1)}}
}

func exampleLevels() plain {
	return levels("0", "1/10", "100", "1/5", "1001/2", "0")
}

func made(t *testing.T, p plain) *schedule.Schedule {
	t.Helper()
	s, e := schedule.Of(p.pieces())
	if e != api.OK || s == nil {
		t.Fatalf("Of %d pieces: error %d", len(p), e)
	}
	return s
}

func wantNumber(t *testing.T, got rat.Rat, want *big.Rat, what string) {
	t.Helper()
	told := ofRatio(got.Plain())
	if told == nil || told.Cmp(want) != 0 {
		if long(want) > mostLimbs {
			t.Fatalf("%s: not the number of %d limbs that was wanted", what, long(want))
		}
		t.Fatalf("%s: %v, wanted %v", what, told, want)
	}
}

func wantPieces(t *testing.T, got []api.Piece, want plain) {
	t.Helper()
	if len(got) != len(want) {
		t.Fatalf("%d pieces, wanted %d", len(got), len(want))
	}
	for i, piece := range got {
		above, rate := ofRatio(piece.Above), ofRatio(piece.Rate)
		if above == nil || rate == nil || above.Cmp(want[i].above) != 0 || rate.Cmp(want[i].rate) != 0 {
			t.Fatalf("the piece %d: %v %v, wanted %v %v", i, above, rate, want[i].above, want[i].rate)
		}
	}
}

// wantAt wants an amount to come to what it comes to plainly.
func wantAt(t *testing.T, s *schedule.Schedule, p plain, base *big.Rat) {
	t.Helper()
	got, e := s.At(number(t, base))
	if e != api.OK {
		t.Fatalf("At of %d limbs: error %d", long(base), e)
	}
	wantNumber(t, got, p.at(base), "At")
}

// wantAsked wants the slope at an amount, and the next bound; base may be below 0.
func wantAsked(t *testing.T, s *schedule.Schedule, p plain, base *big.Rat) {
	t.Helper()
	wantAskedOf(t, s, p, base, number(t, base))
}

// wantAskedOf is handed the base as a number too: long ones take long to make.
func wantAskedOf(t *testing.T, s *schedule.Schedule, p plain, base *big.Rat, asked rat.Rat) {
	t.Helper()
	wantErr, want := api.OK, p.slope(base)
	if base.Sign() < 0 {
		wantErr, want = api.ErrArg, q("0")
	}
	slope, e := s.Slope(asked)
	wantNumber(t, slope, want, "Slope")
	if e != wantErr {
		t.Fatalf("Slope of %d limbs: error %d", long(base), e)
	}
	next, is := s.Next(asked)
	want = p.next(base)
	if is != (want != nil) {
		t.Fatalf("Next of %d limbs: %v", long(base), is)
	}
	if !is {
		want = q("0")
	}
	wantNumber(t, next, want, "Next")
}

// dice rolls the same numbers in each run.
type dice uint64

func (d *dice) next() uint64 {
	*d ^= *d << 13
	*d ^= *d >> 7
	*d ^= *d << 17
	return uint64(*d)
}

func (d *dice) below(n int) int {
	return int(d.next() % uint64(n))
}

// whole is a number of just so many limbs.
func (d *dice) whole(n int) *big.Rat {
	list := make([]uint64, n)
	for i := range list {
		list[i] = d.next() | 1<<(limbBits-1)
	}
	return new(big.Rat).SetInt(wordsOf(list))
}

// part is a number from 0 to 1 whose denominator is at most n.
func (d *dice) part(n int) *big.Rat {
	den := 1 + d.below(n)
	return big.NewRat(int64(d.below(den+1)), int64(den))
}

// small are n levels whose bounds are halves, thirds and sixths.
func (d *dice) small(n int) plain {
	p := plain{{above: new(big.Rat), rate: d.part(9)}}
	for at := 0; len(p) < n; {
		at += 1 + d.below(9)
		p = append(p, level{above: big.NewRat(int64(at), 6), rate: d.part(9)})
	}
	return p
}

// long are n levels of numbers of as many limbs as there may be, that have little in
// common.
func (d *dice) long(n int) plain {
	p := plain{{above: new(big.Rat)}}
	for len(p) < n {
		p = append(p, level{above: over(d.whole(mostLimbs), d.whole(mostLimbs))})
	}
	slices.SortFunc(p, func(a, b level) int { return a.above.Cmp(b.above) })
	for i := range p {
		a, b := d.whole(mostLimbs), d.whole(mostLimbs)
		if a.Cmp(b) > 0 {
			a, b = b, a
		}
		p[i].rate = over(a, b)
	}
	return p
}

// someLevels are schedules of all counts, of small numbers and of long ones.
func someLevels() []plain {
	roll := dice(181)
	all := []plain{exampleLevels(), levels("0", "0"), levels("0", "1"), levels("0", "1/3"), levels("0", "0", "5", "1"), levels("0", "1", "5", "0"), levels("0", "1/2", "10", "1/2")}
	for n := 1; n <= mostBrackets; n++ {
		for range 6 {
			all = append(all, roll.small(n))
		}
		all = append(all, roll.long(n))
	}
	return all
}

// longLevels are of all counts, of small numbers and of numbers as long as may be.
func longLevels() []plain {
	roll := dice(191)
	all := []plain{exampleLevels(), levels("0", "1")}
	for n := 1; n <= mostBrackets; n++ {
		all = append(all, roll.small(n), roll.long(n))
	}
	return all
}

// bases are about a schedule's bounds, between them and behind the last one.
func (p plain) bases() []*big.Rat {
	var list []*big.Rat
	near := []*big.Rat{q("1/1000000007"), over(q("1"), two(400, 1)), q("1/7"), q("3")}
	for i, l := range p {
		list = append(list, l.above)
		if i > 0 {
			list = append(list, over(plus(l.above, p[i-1].above), q("2")))
		}
		for _, far := range near {
			list = append(list, plus(l.above, far))
			if l.above.Cmp(far) >= 0 {
				list = append(list, minus(l.above, far))
			}
		}
	}
	last := p[len(p)-1].above
	return append(list, plus(last, two(70, 0)), plus(times(last, q("2")), q("22/7")))
}

// The plain ways are themselves held against what anyone sees, and against each
// other.
func TestPlain(t *testing.T) {
	p := ofBrackets(example())
	for _, c := range [][4]string{{"0", "0", "1/10", "100"}, {"100", "10", "1/5", "1001/2"}, {"50", "5", "1/10", "100"}, {"150", "20", "1/5", "1001/2"}, {"500", "90", "1/5", "1001/2"}, {"1000", "901/10", "0", ""}} {
		base := q(c[0])
		if p.at(base).Cmp(q(c[1])) != 0 || p.slope(base).Cmp(q(c[2])) != 0 || p.bySlices(base, 2).Cmp(q(c[1])) != 0 {
			t.Errorf("%v: %v, %v", c, p.at(base), p.slope(base))
		}
		if next := p.next(base); next == nil != (c[3] == "") || next != nil && next.Cmp(q(c[3])) != 0 {
			t.Errorf("%v: %v", c, next)
		}
	}
	if !p.mayBe() || plain(nil).mayBe() || levels("0", "3/2").mayBe() || levels("0", "-1/2").mayBe() || levels("1", "1/2").mayBe() || levels("0", "1", "0", "1").mayBe() {
		t.Error("mayBe")
	}
	for _, r := range []*big.Rat{q("0"), q("-7/2"), two(192, 0), minusOf(two(192, -1)), over(q("3"), two(191, 0))} {
		if got := ofRatio(ratio(r)); got == nil || got.Cmp(r) != 0 || ofRatio(number(t, r).Plain()).Cmp(r) != 0 {
			t.Errorf("%v: %v", r, got)
		}
	}
	for _, r := range []api.Ratio{{}, {Num: []uint64{2}, Den: []uint64{4}}, {Neg: true, Den: []uint64{1}}, {Num: []uint64{1, 0}, Den: []uint64{2}}, {Num: []uint64{1}, Den: []uint64{2, 0}}, {Den: []uint64{2}}, {Num: []uint64{0}, Den: []uint64{1}}} {
		if ofRatio(r) != nil {
			t.Errorf("%v is normal", r)
		}
	}
	if long(two(192, -1)) != 3 || long(two(192, 0)) != 4 || long(over(q("1"), two(192, 0))) != 4 || long(q("0")) != 1 {
		t.Error("long")
	}
	if ofDec(dec(-25, 1)).Cmp(q("-5/2")) != 0 || ofDec(dec(50, 1)) != nil || ofDec(dec(0, 1)) != nil || ofDec(dec(1, 10)) != nil || ofDec(dec(1, -1)) != nil || ofDec(dec(1, 9)).Cmp(q("1/1000000000")) != 0 {
		t.Error("ofDec")
	}
	roll := dice(3)
	for range 100 {
		p, base := roll.small(1+roll.below(8)), big.NewRat(int64(roll.below(400)), 6)
		if !p.mayBe() || p.at(base).Cmp(p.bySlices(base, 6)) != 0 {
			t.Fatalf("%v", p)
		}
		if p := roll.long(1 + roll.below(8)); !p.mayBe() {
			t.Fatalf("%v", p)
		}
	}
}
