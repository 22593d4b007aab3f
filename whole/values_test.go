package whole_test

import (
	"slices"
	"strings"
	"testing"

	"tollbook/api"
	"tollbook/nat"
	"tollbook/whole"
)

// answer is what a call tells: numbers, a text, an int.
type answer struct {
	numbers [2]whole.Int
	text    string
	number  int64
	err     api.Errno
}

func sameNumber(a, b whole.Int) bool {
	return a.Sign() == b.Sign() && slices.Equal(a.Abs().Limbs(), b.Abs().Limbs())
}

func (a answer) same(o answer) bool {
	return sameNumber(a.numbers[0], o.numbers[0]) && sameNumber(a.numbers[1], o.numbers[1]) &&
		a.text == o.text && a.number == o.number && a.err == o.err
}

// kept is the answer in memory of its own, which nothing of the package has.
func (a answer) kept(t *testing.T) answer {
	t.Helper()
	for i, n := range a.numbers {
		a.numbers[i] = whole.New(n.Sign() < 0, far(t, slices.Clone(n.Abs().Limbs())...))
	}
	a.text = strings.Clone(a.text)
	return a
}

type call struct {
	name string
	run  func(a, b whole.Int) answer
}

func calls() []call {
	one := func(i whole.Int, e api.Errno) answer { return answer{numbers: [2]whole.Int{i}, err: e} }
	return []call{
		{"New", func(a, _ whole.Int) answer { return one(whole.New(a.Sign() < 0, a.Abs()), api.OK) }},
		{"Neg", func(a, _ whole.Int) answer { return one(a.Neg(), api.OK) }},
		{"Int64", func(a, _ whole.Int) answer { x, e := a.Int64(); return answer{number: x, err: e} }},
		{"Compare", func(a, b whole.Int) answer { return answer{number: int64(whole.Compare(a, b))} }},
		{"Add", func(a, b whole.Int) answer { return one(whole.Add(a, b)) }},
		{"Sub", func(a, b whole.Int) answer { return one(whole.Sub(a, b)) }},
		{"Mul", func(a, b whole.Int) answer { return one(whole.Mul(a, b)) }},
		{"DivMod", func(a, b whole.Int) answer {
			q, r, e := whole.DivMod(a, b)
			return answer{numbers: [2]whole.Int{q, r}, err: e}
		}},
		{"Text", func(a, _ whole.Int) answer { return answer{text: whole.Text(a)} }},
	}
}

// scribble writes over a list, and over the room behind its end.
func scribble(l []uint64) {
	l = l[:cap(l)]
	for i := range l {
		l[i] ^= 0xdeadbeefdeadbeef
	}
}

// use does with a number what a caller may, and writes over all that comes.
func use(i whole.Int) {
	scribble(i.Abs().Limbs())
	for _, c := range calls()[:8] {
		for _, number := range c.run(i, whole.Small(-3)).numbers {
			scribble(number.Abs().Limbs())
		}
	}
}

// R2, R3, R5, R6: numbers stay what they were, whatever is done with them and
// with what comes of them; the same call answers the same; beside an error all
// is 0.
func TestNumbersStay(t *testing.T) {
	t.Parallel()
	pairs := somePairs(t)
	long := longNumbers(t)
	for _, c := range calls() {
		for _, a := range pairs {
			for _, b := range pairs {
				wantStay(t, c, a.got, b.got)
			}
		}
		for _, n := range long[:2] {
			wantStay(t, c, n, whole.Int{})
			wantStay(t, c, n, whole.Small(-1))
			wantStay(t, c, whole.Small(5), n)
			wantStay(t, c, n, n)
		}
	}
}

func wantStay(t *testing.T, c call, a, b whole.Int) {
	t.Helper()
	copied, other := a, b
	was := answer{numbers: [2]whole.Int{a, b}}.kept(t)
	first := c.run(a, b)
	told := first.kept(t)
	if first.err != api.OK && !first.same(answer{err: first.err}) {
		t.Fatalf("%s answers beside the error %d", c.name, first.err)
	}
	for _, i := range []whole.Int{first.numbers[0], first.numbers[1], a, b} {
		use(i)
	}
	if !first.same(told) {
		t.Fatalf("what %s answered has changed", c.name)
	}
	if !sameNumber(a, was.numbers[0]) || !sameNumber(b, was.numbers[1]) || !sameNumber(copied, a) || !sameNumber(other, b) {
		t.Fatalf("%s changes a number", c.name)
	}
	if !c.run(copied, other).same(told) {
		t.Fatalf("%s answers otherwise the next time", c.name)
	}
}

// R3, R5: neither the list behind a number nor what is told of it is shared.
func TestNothingIsShared(t *testing.T) {
	for _, l := range append(manyLists(), longest()...) {
		room := slices.Clone(l)
		n := far(t, room...)
		i := whole.New(true, n)
		scribble(room)
		scribble(n.Limbs())
		scribble(i.Abs().Limbs())
		wantNumber(t, i, -min(len(l), 1), l, "a number whose lists were written over")
		if !slices.Equal(n.Limbs(), l) {
			t.Errorf("the distance of %d limbs has changed", len(l))
		}
	}
}

// R3, R5: texts and what was read from them stay, and a text that is a piece of
// another is read as by itself.
func TestTextsStay(t *testing.T) {
	text := "-12" + strings.Repeat("9", 30) + "z-é\xff-" + noughts(20) + "-7"
	was := strings.Clone(text)
	for from := range len(text) {
		for to := from; to <= len(text); to++ {
			wantReadAlike(t, text[from:to])
		}
	}
	if text != was {
		t.Error("a text has changed")
	}
}

func wantReadAlike(t *testing.T, s string) {
	t.Helper()
	first, at, e := whole.Parse(s)
	told := answer{numbers: [2]whole.Int{first}}.kept(t).numbers[0]
	use(first)
	again, atAgain, eAgain := whole.Parse(strings.Clone(s))
	if !sameNumber(again, told) || atAgain != at || eAgain != e {
		t.Fatalf("Parse(%q) answers otherwise the next time", s)
	}
	if !sameNumber(first, told) {
		t.Fatalf("what Parse(%q) answered has changed", s)
	}
}

// R8: calls on unlike numbers, and on copies of one, may be made at one time.
func TestAtOneTime(t *testing.T) {
	i := whole.New(true, far(t, repeated(m, 300)...))
	want := whole.Text(i)
	told := make(chan bool)
	for range 8 {
		go func() {
			back, _, e := whole.Parse(whole.Text(i))
			gone, f := whole.Add(i.Neg(), back)
			told <- whole.Text(i) == want && e == api.OK && f == api.OK && gone.Sign() == 0 && nat.Compare(i.Abs(), back.Abs()) == 0
		}()
	}
	for range 8 {
		if !<-told {
			t.Error("calls at one time disturb each other")
		}
	}
}
