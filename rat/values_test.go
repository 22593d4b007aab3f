package rat_test

import (
	"slices"
	"testing"

	"tollbook/api"
	"tollbook/nat"
	"tollbook/rat"
	"tollbook/whole"
)

// answer is what a call tells: numbers of three kinds.
type answer struct {
	numbers []rat.Rat
	whole   whole.Int
	natural nat.Nat
	number  int
	err     api.Errno
}

func (a answer) same(o answer) bool {
	return slices.EqualFunc(a.numbers, o.numbers, same) && whole.Compare(a.whole, o.whole) == 0 &&
		nat.Compare(a.natural, o.natural) == 0 && a.number == o.number && a.err == o.err
}

// kept is a number in memory of its own, which nothing of the package has.
func kept(t *testing.T, r rat.Rat) rat.Rat {
	t.Helper()
	p := r.Plain()
	own, e := rat.New(number(t, p.Neg, slices.Clone(p.Num)...), number(t, false, slices.Clone(p.Den)...))
	wantOK(t, e, "New")
	return own
}

func (a answer) kept(t *testing.T) answer {
	t.Helper()
	own := a
	own.numbers = nil
	for _, r := range a.numbers {
		own.numbers = append(own.numbers, kept(t, r))
	}
	own.whole = number(t, a.whole.Sign() < 0, slices.Clone(a.whole.Abs().Limbs())...)
	own.natural = natOf(t, slices.Clone(a.natural.Limbs()))
	return own
}

type call struct {
	name string
	run  func(a, b rat.Rat) answer
}

func calls() []call {
	one := func(r rat.Rat, e api.Errno) answer { return answer{numbers: []rat.Rat{r}, err: e} }
	return []call{
		{"New", func(a, b rat.Rat) answer { return one(rat.New(a.Num(), b.Num())) }},
		{"Whole", func(a, _ rat.Rat) answer { return one(rat.Whole(a.Num())) }},
		{"Of", func(a, _ rat.Rat) answer { return one(rat.Of(a.Plain())) }},
		{"Neg", func(a, _ rat.Rat) answer { return one(a.Neg(), api.OK) }},
		{"Add", func(a, b rat.Rat) answer { return one(rat.Add(a, b)) }},
		{"Sub", func(a, b rat.Rat) answer { return one(rat.Sub(a, b)) }},
		{"Mul", func(a, b rat.Rat) answer { return one(rat.Mul(a, b)) }},
		{"Quo", func(a, b rat.Rat) answer { return one(rat.Quo(a, b)) }},
		{"Frac", func(a, _ rat.Rat) answer { return one(rat.Frac(a), api.OK) }},
		{"Between", func(a, b rat.Rat) answer { return one(rat.Between(a, b), api.OK) }},
		{"Num", func(a, _ rat.Rat) answer { return answer{whole: a.Num()} }},
		{"Den", func(a, _ rat.Rat) answer { return answer{natural: a.Den()} }},
		{"Floor", func(a, _ rat.Rat) answer { return answer{whole: rat.Floor(a)} }},
		{"Ceil", func(a, _ rat.Rat) answer { return answer{whole: rat.Ceil(a)} }},
		{"Sign", func(a, _ rat.Rat) answer { return answer{number: a.Sign()} }},
		{"Long", func(a, _ rat.Rat) answer { return answer{number: a.Long()} }},
		{"Compare", func(a, b rat.Rat) answer { return answer{number: rat.Compare(a, b)} }},
	}
}

// scribble writes over a list, and over the room behind its end.
func scribble(l []uint64) {
	l = l[:cap(l)]
	for i := range l {
		l[i] ^= 0xdeadbeefdeadbeef
	}
}

// scribbleOver writes over all lists that are told of a number.
func scribbleOver(r rat.Rat) {
	p := r.Plain()
	scribble(p.Num)
	scribble(p.Den)
	scribble(r.Num().Abs().Limbs())
	scribble(r.Den().Limbs())
}

// use does with a number what a caller may, and writes over all that comes.
func use(r rat.Rat) {
	scribbleOver(r)
	third, _ := rat.Small(-1, 3)
	for _, c := range calls() {
		told := c.run(r, third)
		scribble(told.whole.Abs().Limbs())
		scribble(told.natural.Limbs())
		for _, n := range told.numbers {
			scribbleOver(n)
		}
	}
}

func wantStay(t *testing.T, c call, a, b rat.Rat) {
	t.Helper()
	copied, other := a, b
	ownA, ownB := kept(t, a), kept(t, b)
	first := c.run(a, b)
	told := first.kept(t)
	if first.err != api.OK && !first.same(answer{numbers: []rat.Rat{{}}, err: first.err}) {
		t.Fatalf("%s answers beside the error %d", c.name, first.err)
	}
	for _, r := range append(first.numbers, a, b) {
		use(r)
	}
	if !first.same(told) {
		t.Fatalf("what %s answered has changed", c.name)
	}
	if !same(a, ownA) || !same(b, ownB) || !same(copied, a) || !same(other, b) {
		t.Fatalf("%s changes a number", c.name)
	}
	if !c.run(copied, other).same(told) || !c.run(ownA, ownB).same(told) {
		t.Fatalf("%s answers otherwise the next time", c.name)
	}
}

// R2, R3, R5, R6: numbers stay what they were, whatever is done with them and
// with what comes of them; the same call answers the same; beside an error all
// is 0.
func TestNumbersStay(t *testing.T) {
	t.Parallel()
	rats := someRats(t)
	long := over(t, two(t, end, -1), two(t, end, -3))
	for _, c := range calls() {
		for i, a := range rats {
			for _, b := range rats[i%4:] {
				wantStay(t, c, a, b)
			}
		}
		wantStay(t, c, long, rat.Rat{})
		wantStay(t, c, long, long.Neg())
	}
}

// R3: what is handed to Of is neither changed nor kept, nor is the room behind
// its end.
func TestOfKeepsNothing(t *testing.T) {
	for _, p := range []api.Ratio{
		{Neg: true, Num: []uint64{3}, Den: []uint64{2}}, {Den: []uint64{1}}, {Num: repeated(m, most), Den: []uint64{0, 0, 1}}, {Num: []uint64{m, 5}, Den: repeated(m, most-1)},
		{Num: []uint64{6}, Den: []uint64{4}}, {Num: []uint64{6, 0}, Den: []uint64{4, 0}}, {}, {Num: make([]uint64, most+1)}, {Neg: true, Den: []uint64{1}},
	} {
		room := func(l []uint64) []uint64 { return append(slices.Clone(l), 7, 0, m)[:len(l)] }
		handed := api.Ratio{Neg: p.Neg, Num: room(p.Num), Den: room(p.Den)}
		first, e := rat.Of(handed)
		for _, l := range [][2][]uint64{{handed.Num, p.Num}, {handed.Den, p.Den}} {
			if !slices.Equal(l[0], l[1]) || !slices.Equal(l[0][len(l[0]):][:3], []uint64{7, 0, m}) {
				t.Error("Of changes what is handed in")
			}
		}
		scribble(handed.Num)
		scribble(handed.Den)
		again, f := rat.Of(p)
		if e != f || !same(first, again) {
			t.Error("Of keeps what is handed in")
		}
	}
	// One list for both parts, and parts of one list.
	row := []uint64{1, 3, 1}
	r, e := rat.Of(api.Ratio{Num: row[:1], Den: row[:1]})
	wantOK(t, e, "Of")
	wantFrac(t, r, frac{1, 1}, "Of with one list")
	r, e = rat.Of(api.Ratio{Num: row[1:2], Den: row[:1]})
	wantOK(t, e, "Of")
	wantFrac(t, r, frac{3, 1}, "Of with parts of a list")
}

// R3: what Plain tells is new memory, and its lists share none.
func TestPlainIsNew(t *testing.T) {
	for _, r := range append(someRats(t), longRats(t)...) {
		own := kept(t, r)
		p, q := r.Plain(), r.Plain()
		scribble(p.Num)
		if !slices.Equal(p.Den, own.Plain().Den) || !slices.Equal(q.Num, own.Plain().Num) || !slices.Equal(q.Den, own.Plain().Den) {
			t.Error("lists of Plain share memory")
		}
		scribble(p.Den)
		if !slices.Equal(q.Num, own.Plain().Num) || !slices.Equal(q.Den, own.Plain().Den) {
			t.Error("two Plains share memory")
		}
		wantSame(t, r, own, "a number whose Plain was written over")
		negated := r.Neg()
		scribbleOver(negated)
		wantSame(t, r, own, "a number whose Neg was written over")
		wantSame(t, negated.Neg(), own, "Neg of Neg")
	}
}

// R3, R5: the numbers that are handed in stay what they were.
func TestHandedInStay(t *testing.T) {
	num, den := number(t, true, 6, 0, 6), number(t, false, 4, 4)
	wasNum, wasDen := num.Abs().Limbs(), den.Abs().Limbs()
	r, e := rat.New(num, den)
	wantOK(t, e, "New")
	w, e := rat.Whole(num)
	wantOK(t, e, "Whole")
	use(r)
	use(w)
	if !slices.Equal(num.Abs().Limbs(), wasNum) || !slices.Equal(den.Abs().Limbs(), wasDen) || num.Sign() != -1 || den.Sign() != 1 {
		t.Error("what was handed in has changed")
	}
	wantTold(t, w, num, nat.Small(1), "Whole")
	wantQuotient(t, r, api.OK, num, den, "New")
}

// R8: calls on unlike numbers, and on copies of one, may be made at one time.
func TestAtOneTime(t *testing.T) {
	x := mixed(41)
	r := over(t, number(t, true, x.list(60)...), number(t, false, x.list(70)...))
	own := kept(t, r)
	told := make(chan bool)
	for range 8 {
		go func() {
			double, e := rat.Add(r, r)
			half, f := rat.Quo(double, r)
			told <- e == api.OK && f == api.OK && half.Long() == 1 && same(rat.Between(r, r), own) && same(r.Neg().Neg(), own)
		}()
	}
	for range 8 {
		if !<-told {
			t.Error("calls at one time disturb each other")
		}
	}
}
