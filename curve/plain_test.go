package curve_test

// What the tests hold the package against: numbers are those of math/big; a curve is
// gone up from 0 on, overlap by overlap; where two are put together, all places are
// gathered at which something may begin, each is asked for its value, and what lies
// between is told by how much it rises. Nothing of the package is in it.

import (
	"math/big"
	"slices"
	"testing"

	"tollbook/api"
	"tollbook/curve"
	"tollbook/rat"
)

const (
	m = 1<<64 - 1
	// limbBits is how long a limb is, the others are what may be.
	limbBits   = 64
	mostKinks  = 256
	mostLimbs  = 640
	mostRatio  = 1024
	mostFigure = 3
)

// bend is a kink as numbers; plain has those of a curve.
type bend struct {
	x, y, slope *big.Rat
}

type plain []bend

// q is the number that a text like 3, 7/2 or 0.25 says.
func q(text string) *big.Rat {
	r, ok := new(big.Rat).SetString(text)
	if !ok {
		panic(text)
	}
	return r
}

// two is 2 to the power bits, and more put to it.
func two(bits uint, more int64) *big.Rat {
	n := new(big.Int).Lsh(big.NewInt(1), bits)
	return new(big.Rat).SetInt(n.Add(n, big.NewInt(more)))
}

func plus(a, b *big.Rat) *big.Rat  { return new(big.Rat).Add(a, b) }
func minus(a, b *big.Rat) *big.Rat { return new(big.Rat).Sub(a, b) }
func times(a, b *big.Rat) *big.Rat { return new(big.Rat).Mul(a, b) }
func over(a, b *big.Rat) *big.Rat  { return new(big.Rat).Quo(a, b) }
func minusOf(a *big.Rat) *big.Rat  { return new(big.Rat).Neg(a) }

// limbs has the lowest limb first, and no nought at its end.
func limbs(n *big.Int) []uint64 {
	var list []uint64
	for _, w := range new(big.Int).Abs(n).Bits() {
		list = append(list, uint64(w))
	}
	return list
}

// ratio is a number's normal ratio.
func ratio(r *big.Rat) api.Ratio {
	return api.Ratio{Neg: r.Sign() < 0, Num: limbs(r.Num()), Den: limbs(r.Denom())}
}

// long is how many limbs a number's longer part has.
func long(r *big.Rat) int {
	return max(len(limbs(r.Num())), len(limbs(r.Denom())))
}

func number(t *testing.T, r *big.Rat) rat.Rat {
	t.Helper()
	n, e := rat.Of(ratio(r))
	if e != api.OK {
		t.Fatalf("a number of %d limbs: error %d", long(r), e)
	}
	return n
}

func wordsOf(list []uint64) *big.Int {
	words := make([]big.Word, len(list))
	for i, limb := range list {
		words[i] = big.Word(limb)
	}
	return new(big.Int).SetBits(words)
}

// ofRatio is what a ratio says; nil, if it is not normal.
func ofRatio(p api.Ratio) *big.Rat {
	num, den := wordsOf(p.Num), wordsOf(p.Den)
	if den.Sign() == 0 || p.Neg && num.Sign() == 0 {
		return nil
	}
	if p.Neg {
		num.Neg(num)
	}
	said := new(big.Rat).SetFrac(num, den)
	if !slices.Equal(limbs(said.Num()), p.Num) || !slices.Equal(limbs(said.Denom()), p.Den) {
		return nil
	}
	return said
}

// at gathers what the curve rises by in each of its pieces.
func (p plain) at(x *big.Rat) *big.Rat {
	sum := new(big.Rat)
	for i, b := range p {
		end := x
		if i+1 < len(p) && p[i+1].x.Cmp(x) < 0 {
			end = p[i+1].x
		}
		if end.Cmp(b.x) > 0 {
			sum = plus(sum, times(b.slope, minus(end, b.x)))
		}
	}
	return sum
}

// where are the places at which the curve is y, but for those within a flat piece.
func (p plain) where(y *big.Rat) []*big.Rat {
	var list []*big.Rat
	for i, b := range p {
		if b.slope.Sign() == 0 {
			continue
		}
		x := plus(b.x, over(minus(y, b.y), b.slope))
		if x.Cmp(b.x) >= 0 && (i+1 == len(p) || x.Cmp(p[i+1].x) <= 0) {
			list = append(list, x)
		}
	}
	return list
}

func (p plain) xs() []*big.Rat {
	var list []*big.Rat
	for _, b := range p {
		list = append(list, b.x)
	}
	return list
}

// ofValues is the curve that has these values, and begins to rise otherwise at some of
// these places and nowhere else.
func ofValues(value func(x *big.Rat) *big.Rat, places []*big.Rat) plain {
	places = append(slices.Clone(places), q("0"))
	slices.SortFunc(places, func(a, b *big.Rat) int { return a.Cmp(b) })
	places = slices.CompactFunc(places, func(a, b *big.Rat) bool { return a.Cmp(b) == 0 })
	var p plain
	for i, x := range places {
		next := plus(x, q("1"))
		if i+1 < len(places) {
			next = places[i+1]
		}
		y := value(x)
		slope := over(minus(value(next), y), minus(next, x))
		if n := len(p); n == 0 || p[n-1].slope.Cmp(slope) != 0 {
			p = append(p, bend{x, y, slope})
		}
	}
	return p
}

func plainAdd(a, b plain) plain {
	return ofValues(func(x *big.Rat) *big.Rat { return plus(a.at(x), b.at(x)) }, append(a.xs(), b.xs()...))
}

func plainAfter(f, g plain) plain {
	places := g.xs()
	for _, x := range f.xs() {
		places = append(places, g.where(x)...)
	}
	return ofValues(func(x *big.Rat) *big.Rat { return f.at(g.at(x)) }, places)
}

// isLong tells whether a curve is long.
func (p plain) isLong() bool {
	if len(p) > mostKinks {
		return true
	}
	for _, b := range p {
		if max(long(b.x), long(b.y), long(b.slope)) > mostLimbs {
			return true
		}
	}
	return false
}

// isFlat tells whether a curve is flat anywhere.
func (p plain) isFlat() bool {
	return slices.ContainsFunc(p, func(b bend) bool { return b.slope.Sign() == 0 })
}

// levels are a curve's places and slopes, as texts: a place, a slope, a place, a slope ..
// Places at which the slope does not change are none of its kinks.
func levels(texts ...string) plain {
	var p plain
	for i := 0; i < len(texts); i += 2 {
		x, slope := q(texts[i]), q(texts[i+1])
		y := p.at(x)
		if n := len(p); n == 0 || p[n-1].slope.Cmp(slope) != 0 {
			p = append(p, bend{x, y, slope})
		}
	}
	return p
}

// kinks are told as they stand: X, Y, Slope, X, Y, Slope ..
func kinks(texts ...string) plain {
	var p plain
	for i := 0; i < len(texts); i += 3 {
		p = append(p, bend{q(texts[i]), q(texts[i+1]), q(texts[i+2])})
	}
	return p
}

// pieces are what Of is handed in.
func pieces(texts ...string) []api.Piece {
	var list []api.Piece
	for i := 0; i < len(texts); i += 2 {
		list = append(list, api.Piece{Above: ratio(q(texts[i])), Rate: ratio(q(texts[i+1]))})
	}
	return list
}

// both is a curve, and what it is to be.
type both struct {
	made  *curve.Curve
	plain plain
}

// of makes a curve of pieces: a place, a slope, a place, a slope ..
func of(t *testing.T, texts ...string) both {
	t.Helper()
	c, e := curve.Of(pieces(texts...))
	return took(t, c, e, levels(texts...))
}

func line(t *testing.T, slope *big.Rat) both {
	t.Helper()
	c, e := curve.Line(number(t, slope))
	return took(t, c, e, plain{{q("0"), q("0"), slope}})
}

func add(t *testing.T, a, b both) both {
	t.Helper()
	c, e := curve.Add(a.made, b.made)
	return took(t, c, e, plainAdd(a.plain, b.plain))
}

func after(t *testing.T, f, g both) both {
	t.Helper()
	c, e := curve.After(f.made, g.made)
	return took(t, c, e, plainAfter(f.plain, g.plain))
}

func took(t *testing.T, c *curve.Curve, e api.Errno, p plain) both {
	t.Helper()
	if e != api.OK || c == nil {
		t.Fatalf("a curve of %d kinks: error %d", len(p), e)
	}
	b := both{c, p}
	b.want(t)
	return b
}

// want wants a curve to have the kinks that it is to have.
func (b both) want(t *testing.T) {
	t.Helper()
	wantKinks(t, b.made.Kinks(), b.plain)
}

func wantKinks(t *testing.T, got []api.Kink, want plain) {
	t.Helper()
	if len(got) != len(want) {
		t.Fatalf("%d kinks, wanted %d: %v", len(got), len(want), want)
	}
	for i, k := range got {
		wantRatio(t, k.X, want[i].x, "X")
		wantRatio(t, k.Y, want[i].y, "Y")
		wantRatio(t, k.Slope, want[i].slope, "Slope")
	}
}

func wantRatio(t *testing.T, got api.Ratio, want *big.Rat, what string) {
	t.Helper()
	p := ratio(want)
	if got.Neg == p.Neg && slices.Equal(got.Num, p.Num) && slices.Equal(got.Den, p.Den) {
		return
	}
	if long(want) > mostFigure {
		t.Fatalf("%s: not the number of %d limbs that was wanted", what, long(want))
	}
	t.Fatalf("%s: %v, wanted %v", what, got, want)
}

func wantNumber(t *testing.T, got rat.Rat, want *big.Rat, what string) {
	t.Helper()
	wantRatio(t, got.Plain(), want, what)
}

// wantAt wants a curve's value at x, which is not below 0 and not too long.
func (b both) wantAt(t *testing.T, x *big.Rat) {
	t.Helper()
	b.wantTold(t, b.made.At, x, b.plain.at(x), "At")
}

// wantSolve wants the place at which a curve is y.
func (b both) wantSolve(t *testing.T, y *big.Rat) {
	t.Helper()
	if b.plain.isFlat() {
		got, e := b.made.Solve(number(t, y))
		if e != api.ErrCurve || got.Sign() != 0 {
			t.Fatalf("Solve of a flat curve: error %d", e)
		}
		return
	}
	b.wantTold(t, b.made.Solve, y, b.plain.where(y)[0], "Solve")
}

func (b both) wantTold(t *testing.T, tell func(rat.Rat) (rat.Rat, api.Errno), of, want *big.Rat, what string) {
	t.Helper()
	got, e := tell(number(t, of))
	if long(want) > mostRatio {
		if e != api.ErrLong || got.Sign() != 0 {
			t.Fatalf("%s of %d limbs: error %d, wanted ErrLong", what, long(of), e)
		}
		return
	}
	if e != api.OK {
		t.Fatalf("%s of %d limbs: error %d", what, long(of), e)
	}
	wantNumber(t, got, want, what)
}

// about are places about a curve's kinks, between them and behind the last one; flip
// has them in values.
func (p plain) about(flip bool) []*big.Rat {
	side := func(b bend) *big.Rat {
		if flip {
			return b.y
		}
		return b.x
	}
	near := []*big.Rat{q("1/1000000007"), over(q("1"), two(400, 1)), q("1/7"), q("3")}
	list := []*big.Rat{plus(side(p[len(p)-1]), two(70, 0))}
	for i, b := range p {
		at := side(b)
		list = append(list, at)
		if i > 0 {
			list = append(list, over(plus(at, side(p[i-1])), q("2")))
		}
		for _, far := range near {
			list = append(list, plus(at, far))
			if at.Cmp(far) >= 0 {
				list = append(list, minus(at, far))
			}
		}
	}
	return slices.DeleteFunc(list, func(r *big.Rat) bool { return long(r) > mostLimbs })
}

// wantAll asks a curve for all that it tells.
func (b both) wantAll(t *testing.T) {
	t.Helper()
	b.want(t)
	for _, x := range b.plain.about(false) {
		b.wantAt(t, x)
	}
	for _, y := range b.plain.about(true) {
		b.wantSolve(t, y)
	}
}

// isSame tells whether two plain curves are one: they rise alike from kink to kink.
func isSame(a, b plain) bool {
	return slices.EqualFunc(a, b, func(k, l bend) bool {
		return k.x.Cmp(l.x) == 0 && k.y.Cmp(l.y) == 0 && k.slope.Cmp(l.slope) == 0
	})
}

// wantJoined wants Add and After of two curves, both ways round, and whether they are
// the same; what may be made of them is answered.
func wantJoined(t *testing.T, a, b both) []both {
	t.Helper()
	var list []both
	for _, j := range []struct {
		what string
		join func(a, b *curve.Curve) (*curve.Curve, api.Errno)
		of   [2]both
		want plain
	}{
		{"Add", curve.Add, [2]both{a, b}, plainAdd(a.plain, b.plain)},
		{"Add", curve.Add, [2]both{b, a}, plainAdd(a.plain, b.plain)},
		{"After", curve.After, [2]both{a, b}, plainAfter(a.plain, b.plain)},
		{"After", curve.After, [2]both{b, a}, plainAfter(b.plain, a.plain)},
	} {
		c, e := j.join(j.of[0].made, j.of[1].made)
		if j.want.isLong() {
			if e != api.ErrLong || c != nil {
				t.Fatalf("%s: error %d, wanted ErrLong", j.what, e)
			}
			continue
		}
		if e != api.OK {
			t.Fatalf("%s of %v and %v: error %d", j.what, j.of[0].plain, j.of[1].plain, e)
		}
		list = append(list, took(t, c, e, j.want))
	}
	if same := isSame(a.plain, b.plain); curve.Same(a.made, b.made) != same || curve.Same(b.made, a.made) != same {
		t.Fatalf("Same of %v and %v", a.plain, b.plain)
	}
	return list
}

// dice rolls the same numbers in each run.
type dice uint64

func (d *dice) next() uint64 {
	*d ^= *d << 13
	*d ^= *d >> 7
	*d ^= *d << 17
	return uint64(*d)
}

func (d *dice) below(n int) int {
	return int(d.next() % uint64(n))
}

func one[T any](d *dice, list []T) T {
	return list[d.below(len(list))]
}

// whole is a number of just so many limbs.
func (d *dice) whole(n int) *big.Rat {
	list := make([]uint64, n)
	for i := range list {
		list[i] = d.next() | 1<<(limbBits-1)
	}
	return new(big.Rat).SetInt(wordsOf(list))
}

// odd is a number of just so many limbs that no 2 divides.
func (d *dice) odd(n int) *big.Rat {
	r := d.whole(n)
	r.Num().SetBit(r.Num(), 0, 1)
	return r
}

// small are the texts of n pieces whose places are halves, thirds and sixths.
func (d *dice) small(n int) []string {
	slopes := []string{"0", "0", "1", "1", "1/2", "1/3", "2/3", "3/7", "1/10"}
	texts := []string{"0", one(d, slopes)}
	for at := 0; len(texts) < 2*n; {
		at += 1 + d.below(9)
		texts = append(texts, big.NewRat(int64(at), 6).RatString(), one(d, slopes))
	}
	return texts
}

// long are the texts of n pieces of numbers of as many limbs as there may be.
func (d *dice) long(n int) []string {
	places := []*big.Rat{q("0")}
	for len(places) < n {
		places = append(places, over(d.whole(mostFigure), d.whole(mostFigure)))
	}
	slices.SortFunc(places, func(a, b *big.Rat) int { return a.Cmp(b) })
	var texts []string
	for _, x := range places {
		a, b := d.whole(mostFigure), d.whole(mostFigure)
		if a.Cmp(b) > 0 {
			a, b = b, a
		}
		texts = append(texts, x.RatString(), over(a, b).RatString())
	}
	return texts
}

// curves are of all counts of pieces, of small numbers and of long ones, flat here and
// there, and lines.
func someCurves(t *testing.T) []both {
	t.Helper()
	roll := dice(181)
	list := []both{
		exampleP(t), exampleQ(t), line(t, q("1")), line(t, q("0")), line(t, q("22/7")), line(t, two(191, 0)), line(t, over(q("3"), two(191, 1))),
		of(t, "0", "0"), of(t, "0", "1"), of(t, "0", "1", "5", "0"), of(t, "0", "0", "5", "1"), of(t, "0", "1/2", "5", "0", "7", "1"), of(t, "0", "0", "5", "1", "7", "0"), of(t, "0", "1/2", "10", "1/2"),
	}
	for n := 1; n <= 8; n++ {
		list = append(list, of(t, roll.small(n)...), of(t, roll.small(n)...), of(t, roll.long(n)...))
	}
	return list
}

func exampleP(t *testing.T) both {
	return of(t, "0", "1/10", "100", "1/5")
}

func exampleQ(t *testing.T) both {
	return of(t, "0", "0", "50", "1/2")
}

// The plain ways are themselves held against what anyone sees.
func TestPlain(t *testing.T) {
	p, other := levels("0", "1/10", "100", "1/5"), levels("0", "0", "50", "1/2")
	if !isSame(p, kinks("0", "0", "1/10", "100", "10", "1/5")) || !isSame(levels("0", "1", "5", "1", "9", "1"), kinks("0", "0", "1")) {
		t.Error("levels")
	}
	if !isSame(plainAdd(p, other), kinks("0", "0", "1/10", "50", "5", "3/5", "100", "35", "7/10")) {
		t.Error("plainAdd")
	}
	if !isSame(plainAfter(p, other), kinks("0", "0", "0", "50", "0", "1/20", "250", "10", "1/10")) || !isSame(plainAfter(other, p), kinks("0", "0", "0", "300", "0", "1/10")) {
		t.Error("plainAfter")
	}
	if isSame(p, other) || isSame(p, p[:1]) || isSame(p, levels("0", "1/10", "100", "1/4")) || isSame(p, levels("0", "1/10", "99", "1/5")) {
		t.Error("isSame")
	}
	for _, c := range [][2]string{{"0", "0"}, {"50", "5"}, {"100", "10"}, {"150", "20"}} {
		if p.at(q(c[0])).Cmp(q(c[1])) != 0 || p.where(q(c[1]))[0].Cmp(q(c[0])) != 0 {
			t.Errorf("%v", c)
		}
	}
	if len(other.where(q("0"))) != 1 || other.where(q("0"))[0].Cmp(q("50")) != 0 || len(levels("0", "1", "5", "0").where(q("6"))) != 0 {
		t.Error("where")
	}
	for _, r := range []*big.Rat{q("0"), q("-7/2"), two(192, 0), minusOf(two(192, -1)), over(q("3"), two(191, 0))} {
		if got := ofRatio(ratio(r)); got == nil || got.Cmp(r) != 0 || ofRatio(number(t, r).Plain()).Cmp(r) != 0 {
			t.Errorf("%v: %v", r, got)
		}
	}
	for _, r := range []api.Ratio{{}, {Num: []uint64{2}, Den: []uint64{4}}, {Neg: true, Den: []uint64{1}}, {Num: []uint64{1, 0}, Den: []uint64{2}}, {Den: []uint64{2}}} {
		if ofRatio(r) != nil {
			t.Errorf("%v is normal", r)
		}
	}
	if long(two(192, -1)) != 3 || long(two(192, 0)) != 4 || long(over(q("1"), two(192, 0))) != 4 || long(q("0")) != 1 {
		t.Error("long")
	}
	roll := dice(7)
	if r := roll.odd(5); long(r) != 5 || r.Num().Bit(0) != 1 {
		t.Error("odd")
	}
	exact := plain{{q("0"), q("0"), over(two(64*mostLimbs, -1), two(64*mostLimbs-1, 0))}}
	if exact.isLong() || !(plain{{q("0"), q("0"), two(64*mostLimbs, 0)}}).isLong() || !(plain{{q("0"), over(q("1"), two(64*mostLimbs, 0)), q("0")}}).isLong() || !(plain{{two(64*mostLimbs, 0), q("0"), q("0")}}).isLong() || !make(plain, mostKinks+1).isLong() {
		t.Error("isLong")
	}
	if p.isFlat() || !other.isFlat() {
		t.Error("isFlat")
	}
}
