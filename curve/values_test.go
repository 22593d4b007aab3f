package curve_test

import (
	"slices"
	"testing"

	"tollbook/api"
	"tollbook/curve"
	"tollbook/rat"
)

// listsOf are the lists that stand in a piece's ratios, or a kink's.
func listsOf(ratios ...*api.Ratio) []*[]uint64 {
	var list []*[]uint64
	for _, r := range ratios {
		list = append(list, &r.Num, &r.Den)
	}
	return list
}

// rooms has each list of pieces with some room behind its end, in which something
// stands.
func rooms(list []api.Piece) []api.Piece {
	n := len(list)
	list = append(slices.Clone(list), api.Piece{Above: api.Ratio{Neg: true, Num: []uint64{7}}})
	for i := range list {
		for _, limbs := range listsOf(&list[i].Above, &list[i].Rate) {
			*limbs = append(slices.Clone(*limbs), 77, 78)[:len(*limbs)]
		}
	}
	return list[:n]
}

// everything is a copy of all that stands in the pieces, and behind their ends.
func everything(list []api.Piece) [][]uint64 {
	var all [][]uint64
	for _, p := range list[:len(list)+1] {
		for _, limbs := range listsOf(&p.Above, &p.Rate) {
			all = append(all, slices.Clone((*limbs)[:cap(*limbs)]))
		}
	}
	return all
}

func fill[T any](list []T, with T) {
	list = list[:cap(list)]
	for i := range list {
		list[i] = with
	}
}

// R3: what is handed in to Of is neither changed nor kept, nor is the room behind the
// ends.
func TestPiecesStay(t *testing.T) {
	roll := dice(31)
	for n := 1; n <= 8; n++ {
		for _, texts := range [][]string{roll.small(n), roll.long(n)} {
			list := rooms(pieces(texts...))
			was := everything(list)
			c, e := curve.Of(list)
			if e != api.OK {
				t.Fatalf("error %d", e)
			}
			if !slices.EqualFunc(everything(list), was, slices.Equal[[]uint64]) {
				t.Fatal("what was handed in has changed")
			}
			for i := range list {
				for _, limbs := range listsOf(&list[i].Above, &list[i].Rate) {
					fill(*limbs, 99)
				}
			}
			fill(list, api.Piece{Above: api.Ratio{Neg: true}})
			both{c, levels(texts...)}.wantAll(t)
		}
	}
}

// R3: a call that is refused changes nothing of what is handed in either.
func TestPiecesOfRefusedStay(t *testing.T) {
	for _, list := range [][]api.Piece{pieces("0", "1/2", "1", "3/2"), pieces("1", "1/2"), pieces("0", "1/2", "0", "1/2"), {{Above: ratio(q("0")), Rate: ratio(two(192, 0))}}} {
		list = rooms(list)
		was := everything(list)
		if _, e := curve.Of(list); e == api.OK || !slices.EqualFunc(everything(list), was, slices.Equal[[]uint64]) {
			t.Error("what was handed in has changed")
		}
	}
}

// spoil writes over all that is reached from kinks, the room behind the ends too.
func spoil(list []api.Kink) {
	for i := range list {
		for _, limbs := range listsOf(&list[i].X, &list[i].Y, &list[i].Slope) {
			fill(*limbs, 99)
		}
	}
	fill(list, api.Kink{X: api.Ratio{Neg: true}})
}

// R3, R6: what Kinks answers is the caller's, the room behind its ends too: what is
// written there no later call shows, no answer of ahead, and no curve that was made of
// this one.
func TestKinksAreTheCallers(t *testing.T) {
	for _, b := range someCurves(t) {
		other := b.made.Kinks()
		sum, inner := add(t, b, exampleP(t)), after(t, b, exampleP(t))
		same := after(t, line(t, q("1")), b)
		for range 3 {
			spoil(b.made.Kinks())
			spoil(same.made.Kinks())
			wantKinks(t, other, b.plain)
			b.wantAll(t)
			sum.want(t)
			inner.want(t)
			same.want(t)
		}
	}
}

// R3: no two lists of one answer share any memory, behind their ends either.
func TestListsShareNothing(t *testing.T) {
	for _, b := range append(someCurves(t), add(t, exampleP(t), exampleQ(t))) {
		list := b.made.Kinks()
		var all []*[]uint64
		for i := range list {
			all = append(all, listsOf(&list[i].X, &list[i].Y, &list[i].Slope)...)
		}
		for i, own := range all {
			fill(*own, uint64(1000+i))
		}
		for i, own := range all {
			for _, limb := range (*own)[:cap(*own)] {
				if limb != uint64(1000+i) {
					t.Fatal("two lists share memory")
				}
			}
		}
	}
}

// R3, R5: numbers that are handed in or told are values: what is done with one, or
// written to the lists that it tells, is not seen in the curve.
func TestNumbersAreTheCallers(t *testing.T) {
	for _, b := range append(someCurves(t), add(t, exampleP(t), line(t, q("22/7")))) {
		x := number(t, b.plain[len(b.plain)-1].x)
		for range 2 {
			y, _ := b.made.At(x)
			back, _ := b.made.Solve(y)
			for _, r := range []rat.Rat{x, y, back} {
				told := r.Plain()
				for _, l := range [][]uint64{told.Num, told.Den, r.Num().Abs().Limbs(), r.Den().Limbs()} {
					fill(l, 77)
				}
			}
			wantNumber(t, x, b.plain[len(b.plain)-1].x, "x")
			b.wantAll(t)
		}
	}
	slope := number(t, q("22/7"))
	c, _ := curve.Line(slope)
	spoiled := slope.Plain()
	fill(spoiled.Num, 99)
	fill(spoiled.Den, 99)
	both{c, kinks("0", "0", "22/7")}.wantAll(t)
	wantNumber(t, slope, q("22/7"), "the slope")
}

// R3, R6: curves that are handed in stay what they are, also where they are put together
// with themselves, or with some that go on otherwise; what comes of them stays too.
func TestCurvesStay(t *testing.T) {
	list := someCurves(t)
	for i, a := range list {
		b := list[(i*7+3)%len(list)]
		made := append(wantJoined(t, a, b), wantJoined(t, a, a)...)
		curve.Same(a.made, b.made)
		a.wantAll(t)
		b.wantAll(t)
		for _, c := range made {
			wantJoined(t, c, exampleQ(t))
			c.want(t)
		}
	}
}

// R2, R6: a call that is refused changes nothing of the curves.
func TestCurvesOfRefusedStay(t *testing.T) {
	end := uint(mostLimbs * limbBits)
	bent := after(t, both{wholeLine(t, two(end, -1)), plain{{q("0"), q("0"), two(end, -1)}}}, of(t, "0", "1", "1", "1/2"))
	p := exampleP(t)
	wantLong(t, curve.Add, bent, p, "a slope of 641 limbs")
	wantLong(t, curve.After, bent, bent, "a slope of 1280 limbs")
	wantNot(t, p, q("-1"), api.ErrArg)
	bent.want(t)
	p.wantAll(t)
}

// R8: calls on unlike curves may be made at one time; and asking one changes nothing of
// it.
func TestAtOneTime(t *testing.T) {
	roll := dice(107)
	texts := roll.long(8)
	shared, list := of(t, texts...), pieces(texts...)
	x := number(t, q("22/7"))
	want := shared.plain.at(q("22/7"))
	sum := add(t, shared, exampleP(t))
	sound := func(c *curve.Curve) bool {
		y, e := c.At(x)
		back, err := c.Solve(y)
		return e == api.OK && err == api.OK && ofRatio(y.Plain()).Cmp(want) == 0 && rat.Compare(back, x) == 0 && len(c.Kinks()) == len(shared.plain)
	}
	done := make(chan bool)
	for range 8 {
		go func() {
			own, _ := curve.Of(list)
			p, _ := curve.Of(pieces("0", "1/10", "100", "1/5"))
			ok := true
			for range 20 {
				s, e := curve.Add(own, p)
				put, err := curve.After(p, own)
				ok = ok && sound(own) && sound(shared.made) && e == api.OK && err == api.OK && curve.Same(s, sum.made) && len(put.Kinks()) > 1
			}
			done <- ok
		}()
	}
	for range 8 {
		if !<-done {
			t.Error("calls at one time disturb each other")
		}
	}
}
