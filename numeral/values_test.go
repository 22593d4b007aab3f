package numeral_test

import (
	"slices"
	"strings"
	"testing"

	"tollbook/api"
	"tollbook/nat"
	"tollbook/numeral"
)

// answer is what a call tells: numbers, a text, an int.
type answer struct {
	numbers [2]nat.Nat
	text    string
	number  int
	err     api.Errno
}

func (a answer) same(o answer) bool {
	return nat.Compare(a.numbers[0], o.numbers[0]) == 0 && nat.Compare(a.numbers[1], o.numbers[1]) == 0 &&
		a.text == o.text && a.number == o.number && a.err == o.err
}

// kept is the answer in memory of its own, which nothing of the package has.
func (a answer) kept(t *testing.T) answer {
	t.Helper()
	for i, n := range a.numbers {
		a.numbers[i] = of(t, slices.Clone(n.Limbs())...)
	}
	a.text = strings.Clone(a.text)
	return a
}

type call struct {
	name string
	run  func(n nat.Nat, by int) answer
}

func numberCalls() []call {
	one := func(n nat.Nat, e api.Errno) answer { return answer{numbers: [2]nat.Nat{n}, err: e} }
	return []call{
		{"Text", func(n nat.Nat, by int) answer { s, e := numeral.Text(n, by); return answer{text: s, err: e} }},
		{"Digits", func(n nat.Nat, by int) answer { d, e := numeral.Digits(n, by); return answer{number: d, err: e} }},
		{"Sum", func(n nat.Nat, by int) answer { return one(numeral.Sum(n, by)) }},
		{"Ten", func(n nat.Nat, by int) answer { return one(numeral.Ten(by)) }},
		{"Scale", func(n nat.Nat, by int) answer { return one(numeral.Scale(n, by)) }},
		{"Cut", func(n nat.Nat, by int) answer {
			q, r, e := numeral.Cut(n, by)
			return answer{numbers: [2]nat.Nat{q, r}, err: e}
		}},
	}
}

// scribble writes over a list, and over the room behind its end.
func scribble(l []uint64) {
	l = l[:cap(l)]
	for i := range l {
		l[i] ^= 0xdeadbeefdeadbeef
	}
}

// use does with a number what a caller may, and writes over all that comes.
func use(n nat.Nat) {
	scribble(n.Limbs())
	for _, c := range numberCalls() {
		for _, number := range c.run(n, 10).numbers {
			scribble(number.Limbs())
		}
	}
	if sum, e := nat.Add(n, nat.Small(1)); e == api.OK {
		scribble(sum.Limbs())
	}
	if product, e := nat.Mul(n, n); e == api.OK {
		scribble(product.Limbs())
	}
}

// R3, R5, R6: numbers stay what they were, whatever is done with them and with
// what comes of them; the same call answers the same; beside an error all is 0.
func TestNumbersStay(t *testing.T) {
	t.Parallel()
	x := mixed(4)
	lists := append(manyLists(), x.list(130))
	for _, c := range numberCalls() {
		for _, l := range lists {
			for _, by := range []int{-1, 0, 1, 2, 10, 19, 36, 37} {
				wantStay(t, c, l, by)
			}
		}
		wantStay(t, c, longest()[0], 10)
		wantStay(t, c, longest()[0], maxInt)
	}
}

func wantStay(t *testing.T, c call, l []uint64, by int) {
	t.Helper()
	n := of(t, l...)
	copied := n
	first := c.run(n, by)
	was := first.kept(t)
	if first.err != api.OK && !first.same(answer{err: first.err}) {
		t.Fatalf("%s of %d limbs, %d, answers beside the error %d", c.name, len(l), by, first.err)
	}
	use(first.numbers[0])
	use(first.numbers[1])
	use(n)
	if !first.same(was) {
		t.Fatalf("what %s of %d limbs, %d, answered has changed", c.name, len(l), by)
	}
	if !slices.Equal(n.Limbs(), l) || !slices.Equal(copied.Limbs(), l) {
		t.Fatalf("%s of %d limbs, %d, changes its number", c.name, len(l), by)
	}
	if !c.run(copied, by).same(was) {
		t.Fatalf("%s of %d limbs, %d, answers otherwise the next time", c.name, len(l), by)
	}
}

// R3, R5: texts and what was read from them stay, and a text that is a piece of
// another is read as by itself.
func TestTextsStay(t *testing.T) {
	whole := "12" + strings.Repeat("9", 40) + "z-é\xff" + noughts(30) + "7"
	was := strings.Clone(whole)
	for from := range len(whole) {
		for to := from; to <= len(whole); to++ {
			wantReadAlike(t, whole[from:to])
		}
	}
	if whole != was {
		t.Error("a text has changed")
	}
}

func wantReadAlike(t *testing.T, s string) {
	t.Helper()
	first, at, e := numeral.Parse(s, 10)
	limbs := first.Limbs()
	use(first)
	again, atAgain, eAgain := numeral.Parse(strings.Clone(s), 10)
	if !slices.Equal(again.Limbs(), limbs) || atAgain != at || eAgain != e {
		t.Fatalf("Parse(%q, 10) answers otherwise the next time", s)
	}
	if !slices.Equal(first.Limbs(), limbs) {
		t.Fatalf("what Parse(%q, 10) answered has changed", s)
	}
}

// The zero value is 0, to every base.
func TestZeroValue(t *testing.T) {
	var none nat.Nat
	for _, base := range bases() {
		wantText(t, none, base, "0")
		wantText(t, nat.Small(0), base, "0")
	}
}

// R8: calls on unlike numbers, and on copies of one, may be made at one time.
func TestAtOneTime(t *testing.T) {
	n := of(t, repeated(m, 300)...)
	want := plainText(n.Limbs(), 10)
	told := make(chan bool)
	for range 8 {
		go func() {
			text, _ := numeral.Text(n, 10)
			back, _, e := numeral.Parse(text, 10)
			told <- text == want && nat.Compare(back, n) == 0 && e == api.OK
		}()
	}
	for range 8 {
		if !<-told {
			t.Error("calls at one time disturb each other")
		}
	}
}
