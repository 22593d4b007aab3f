package nat_test

import (
	"slices"
	"testing"

	"tollbook/api"
	"tollbook/nat"
)

const mark = 0xdeadbeefdeadbeef

// scribble writes over a list, and over the room behind its end.
func scribble(l []uint64) {
	l = l[:cap(l)]
	for i := range l {
		l[i] ^= mark
	}
}

// R3: what is handed in is neither changed nor kept.
func TestOfKeepsNothing(t *testing.T) {
	for _, l := range append(manyLists(), longest()...) {
		for _, noughts := range []int{0, 2} {
			room := slices.Concat(repeated(mark, 2), l, make([]uint64, noughts), repeated(mark, 3))
			was := slices.Clone(room)
			n := of(t, room[2:2+len(l)+noughts]...)
			if !slices.Equal(room, was) {
				t.Fatalf("Of(%x) changes its argument, or the room about it", short(l))
			}
			scribble(room)
			wantLimbs(t, n, l, "a number whose list was written over, ", short(l))
		}
	}
}

// R3: what is told is new memory each time.
func TestLimbsAreNew(t *testing.T) {
	for _, l := range append(manyLists(), longest()...) {
		n := of(t, l...)
		copied := n
		first, second := n.Limbs(), n.Limbs()
		scribble(first)
		if !slices.Equal(second, l) {
			t.Fatalf("Limbs of %x tells the same memory twice", short(l))
		}
		scribble(second)
		wantLimbs(t, n, l, "a number whose limbs were written over, ", short(l))
		wantLimbs(t, copied, l, "its copy, ", short(l))
	}
}

// numberCall is a call that answers numbers.
type numberCall struct {
	name string
	run  func(a, b nat.Nat) (nat.Nat, nat.Nat, api.Errno)
}

// numberCalls has, beside ordinary arguments, those at which an answer is as an
// argument was, where both could share memory.
func numberCalls() []numberCall {
	one := func(n nat.Nat, e api.Errno) (nat.Nat, nat.Nat, api.Errno) { return n, nat.Nat{}, e }
	calls := []numberCall{
		{"Add", func(a, b nat.Nat) (nat.Nat, nat.Nat, api.Errno) { return one(nat.Add(a, b)) }},
		{"Sub", func(a, b nat.Nat) (nat.Nat, nat.Nat, api.Errno) { return one(nat.Sub(a, b)) }},
		{"Mul", func(a, b nat.Nat) (nat.Nat, nat.Nat, api.Errno) { return one(nat.Mul(a, b)) }},
		{"DivMod", nat.DivMod},
		{"Gcd", func(a, b nat.Nat) (nat.Nat, nat.Nat, api.Errno) { return one(nat.Gcd(a, b), api.OK) }},
		{"Root", func(a, _ nat.Nat) (nat.Nat, nat.Nat, api.Errno) { return one(nat.Root(a), api.OK) }},
	}
	for _, n := range []int{-1, 0, 1, 2, 3, 64} {
		calls = append(calls,
			numberCall{"Pow", func(a, _ nat.Nat) (nat.Nat, nat.Nat, api.Errno) { return one(nat.Pow(a, n)) }},
			numberCall{"Left", func(a, _ nat.Nat) (nat.Nat, nat.Nat, api.Errno) { return one(nat.Left(a, n)) }},
			numberCall{"Right", func(a, _ nat.Nat) (nat.Nat, nat.Nat, api.Errno) { return one(nat.Right(a, n)) }})
	}
	return calls
}

// R5 and R6: numbers stay what they were, whatever is done with them, with
// what comes of them, and with their limbs; and the same call answers the same.
func TestNumbersStay(t *testing.T) {
	mix := mixed(11)
	lists := [][]uint64{nil, {1}, {2}, {12}, {m}, {0, 1}, {m, 1 << 63}, {m, m}, {1, 0, 1}, {m, 0, m}, repeated(m, 9), mix.list(20)}
	for _, call := range numberCalls() {
		for _, x := range lists {
			for _, y := range lists {
				wantStay(t, call, x, y)
			}
		}
	}
	for _, call := range numberCalls()[:4] {
		wantStay(t, call, repeated(m, most), []uint64{1})
		wantStay(t, call, repeated(m, most), nil)
		wantStay(t, call, power2(64*most-1), repeated(m, most/2))
		wantStay(t, call, []uint64{5}, repeated(m, most))
	}
}

func wantStay(t *testing.T, call numberCall, x, y []uint64) {
	t.Helper()
	a, b := of(t, x...), of(t, y...)
	first, rest, e := call.run(a, b)
	told, toldRest := first.Limbs(), rest.Limbs()
	if e != api.OK && (len(told) > 0 || len(toldRest) > 0) {
		t.Fatalf("%s(%x, %x) answers beside the error %d", call.name, short(x), short(y), e)
	}

	// Whatever is made of the answers and written over leaves all else alone.
	for _, n := range []nat.Nat{first, rest, a, b} {
		scribble(n.Limbs())
		for _, other := range numberCalls() {
			if more, _, e := other.run(n, nat.Small(3)); e == api.OK {
				scribble(more.Limbs())
			}
		}
	}
	again, againRest, againErr := call.run(a, b)
	if !slices.Equal(again.Limbs(), told) || !slices.Equal(againRest.Limbs(), toldRest) || againErr != e {
		t.Fatalf("%s(%x, %x) answers otherwise the next time", call.name, short(x), short(y))
	}
	if !slices.Equal(first.Limbs(), told) || !slices.Equal(rest.Limbs(), toldRest) {
		t.Fatalf("what %s(%x, %x) answered has changed", call.name, short(x), short(y))
	}
	if !slices.Equal(a.Limbs(), x) || !slices.Equal(b.Limbs(), y) {
		t.Fatalf("%s(%x, %x) changes a number", call.name, short(x), short(y))
	}
}

// A number may be handed in twice.
func TestOneNumberTwice(t *testing.T) {
	for _, l := range manyLists() {
		a, d := of(t, l...), digitsOf(l...)
		wantLimbs(t, add(t, a, a), d.plus(d).limbs(), "a + a, ", l)
		wantLimbs(t, mul(t, a, a), d.times(d).limbs(), "a * a, ", l)
		wantSub(t, l, l)
		wantDivMod(t, l, l)
		wantLimbs(t, nat.Gcd(a, a), l, "Gcd(a, a), ", l)
	}
}

// The chapter's examples that stand nowhere else.
func TestExamples(t *testing.T) {
	two64 := of(t, 0, 1)
	if nat.Compare(two64, nat.Small(m)) != 1 || nat.Compare(nat.Small(m), two64) != -1 {
		t.Error("Compare(2^64, M)")
	}
	quotient, rest, e := nat.DivMod(two64, nat.Small(3))
	wantOK(t, e, "DivMod(2^64, 3)")
	wantLimbs(t, quotient, []uint64{6148914691236517205}, "DivMod(2^64, 3)")
	wantLimbs(t, rest, []uint64{1}, "DivMod(2^64, 3)")
	if n := of(t, repeated(m, most)...); n.Bits() != 262144 {
		t.Error("Bits", n.Bits())
	}
	wantLimbs(t, mul(t, nat.Small(m), nat.Small(m)), []uint64{1, m - 1}, "Mul(M, M)")
	wantLimbs(t, nat.Gcd(two64, nat.Small(6)), []uint64{2}, "Gcd(2^64, 6)")
	wantLimbs(t, nat.Root(two64), []uint64{1 << 32}, "Root(2^64)")
}
