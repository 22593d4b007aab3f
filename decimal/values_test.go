package decimal_test

import (
	"slices"
	"strings"
	"testing"

	"tollbook/api"
	"tollbook/decimal"
	"tollbook/rat"
)

// told is all that the calls answer for a decimal, its text and its ratio.
type told struct {
	check, makeErr, ratErr, ofErr, compareErr, parseErr, textErr, expandErr api.Errno
	made, of, parsed                                                        api.Dec
	order, at                                                               int
	text, expanded                                                          string
	just                                                                    bool
}

func tell(d api.Dec, s string, r rat.Rat) (told, rat.Rat) {
	var all told
	var back rat.Rat
	all.check = decimal.Check(d)
	all.made, all.makeErr = decimal.Make(d.Units, d.Places)
	back, all.ratErr = decimal.Rat(d)
	all.of, all.ofErr = decimal.Of(r)
	all.order, all.compareErr = decimal.Compare(d, dec(5, 1))
	all.parsed, all.at, all.parseErr = decimal.Parse(s)
	all.text, all.textErr = decimal.Text(d)
	all.expanded, all.just, all.expandErr = decimal.Expand(r, d.Places)
	return all, back
}

func same(a, b rat.Rat) bool {
	p, q := a.Plain(), b.Plain()
	return p.Neg == q.Neg && slices.Equal(p.Num, q.Num) && slices.Equal(p.Den, q.Den)
}

// scribble writes over all lists that are told of a number, and over the room
// behind their ends.
func scribble(r rat.Rat) {
	p := r.Plain()
	for _, l := range [][]uint64{p.Num, p.Den, r.Num().Abs().Limbs(), r.Den().Limbs()} {
		l = l[:cap(l)]
		for i := range l {
			l[i] ^= 0xdeadbeefdeadbeef
		}
	}
}

// R3, R5, R6: ratios and texts stay what they were, and the same calls answer
// the same.
func TestNothingChanges(t *testing.T) {
	ratios := []rat.Rat{{}, ratio(t, -1, 3), ratio(t, 5, 2), ratio(t, minInt, 1), ratio(t, 1, 1024), over(t, ten(40), "3"), over(t, "-"+ten(70), "9"+noughts(50)), over(t, greatest(t), "1")}
	texts := []string{"", "-", "2.50", "-0.05", "9223372036854775808", noughts(50) + "7", "1.x", "é", "10.0"}
	decs := []api.Dec{{}, dec(25, 1), dec(-5, 2), dec(minInt, 9), dec(maxInt, 0), dec(20, 1), dec(1, -1), dec(1, 10)}
	for i, r := range ratios {
		copied, own := r, kept(t, r)
		for j, d := range decs {
			s := texts[(i+j)%len(texts)]
			part := ("1" + s + "1")[1 : 1+len(s)]
			first, back := tell(d, s, r)
			ownBack := kept(t, back)
			scribble(back)
			scribble(r)
			again, backAgain := tell(d, part, own)
			if first != again || !same(back, ownBack) || !same(backAgain, ownBack) {
				t.Errorf("%v, %q: other answers the next time", d, s)
			}
			if !same(r, own) || !same(copied, own) {
				t.Errorf("%v, %q: a ratio has changed", d, s)
			}
		}
	}
}

// kept is a number in memory of its own, which nothing of the package has.
func kept(t *testing.T, r rat.Rat) rat.Rat {
	t.Helper()
	p := r.Plain()
	own, e := rat.Of(api.Ratio{Neg: p.Neg, Num: slices.Clone(p.Num), Den: slices.Clone(p.Den)})
	wantOK(t, e, "rat.Of")
	return own
}

// R8: calls may be made at one time.
func TestAtOneTime(t *testing.T) {
	r := over(t, "-"+strings.Repeat("7", 300), strings.Repeat("3", 200)+"1")
	want, wantBack := tell(dec(-125, 3), "-0.1250", r)
	done := make(chan bool)
	for range 8 {
		go func() {
			got, back := tell(dec(-125, 3), "-0.1250", r)
			done <- got == want && same(back, wantBack)
		}()
	}
	for range 8 {
		if !<-done {
			t.Error("calls at one time disturb each other")
		}
	}
}
