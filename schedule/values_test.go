package schedule_test

import (
	"math/big"
	"slices"
	"testing"

	"tollbook/api"
	"tollbook/rat"
	"tollbook/schedule"
)

// rooms has each list of pieces with some room behind its end, in which something
// stands.
func rooms(p plain) []api.Piece {
	list := append(p.pieces(), api.Piece{Above: api.Ratio{Neg: true, Num: []uint64{7}}})
	for i := range list {
		for _, limbs := range lists(&list[i]) {
			*limbs = append(slices.Clone(*limbs), 77, 78)[:len(*limbs)]
		}
	}
	return list[:len(p)]
}

// everything is a copy of all that stands in the pieces, and behind their ends.
func everything(list []api.Piece) [][]uint64 {
	var all [][]uint64
	for _, piece := range list[:len(list)+1] {
		for _, limbs := range lists(&piece) {
			all = append(all, slices.Clone((*limbs)[:cap(*limbs)]))
		}
	}
	return all
}

func sameLists(a, b [][]uint64) bool {
	return slices.EqualFunc(a, b, slices.Equal[[]uint64])
}

// spoil writes over all that is reached from pieces, the room behind the ends too.
func spoil(list []api.Piece) {
	list = list[:cap(list)]
	for i := range list {
		for _, limbs := range lists(&list[i]) {
			all := (*limbs)[:cap(*limbs)]
			for k := range all {
				all[k] = 99
			}
		}
		list[i] = api.Piece{Above: api.Ratio{Neg: true}, Rate: api.Ratio{Neg: true}}
	}
}

// R3: what is handed in to Of is neither changed nor kept, nor is the room behind the
// ends.
func TestPiecesStay(t *testing.T) {
	for _, p := range someLevels() {
		list := rooms(p)
		was := everything(list)
		s, e := schedule.Of(list)
		if e != api.OK {
			t.Fatalf("error %d", e)
		}
		s.Pieces()
		s.At(number(t, q("1000")))
		if !sameLists(everything(list), was) {
			t.Fatal("what was handed in has changed")
		}
		spoil(list)
		wantSchedule(t, s, p)
	}
}

// R3: a call that is refused changes nothing of what is handed in either.
func TestPiecesOfRefusedStay(t *testing.T) {
	for _, p := range []plain{levels("0", "1/2", "1", "3/2"), levels("1", "1/2"), levels("0", "1/2", "0", "1/2"), {{above: q("0"), rate: over(q("1"), two(192, 0))}}} {
		list := rooms(p)
		was := everything(list)
		if _, e := schedule.Of(list); e == api.OK {
			t.Error("taken")
		}
		if !sameLists(everything(list), was) {
			t.Error("what was handed in has changed")
		}
	}
}

// wantSchedule asks a schedule for all that it tells.
func wantSchedule(t *testing.T, s *schedule.Schedule, p plain) {
	t.Helper()
	wantPieces(t, s.Pieces(), p)
	for _, base := range p.bases() {
		wantAt(t, s, p, base)
		wantAsked(t, s, p, base)
	}
}

// R3: brackets are neither changed nor kept, nor is the room behind their end.
func TestBracketsStay(t *testing.T) {
	for _, list := range append(someBrackets(), brackets(0, 1, 0, 1), brackets(0, 101)) {
		list = append(slices.Clone(list), brackets(-7, -8, 9, 9)...)
		was := slices.Clone(list)
		n := len(list) - 2
		for _, unit := range []*big.Rat{q("1/3"), q("0"), two(192, 0)} {
			u := number(t, unit)
			p, want := plainPieces(list[:n], unit)
			schedule.Check(list[:n])
			got, e := schedule.Pieces(list[:n], u)
			if e != want || !slices.Equal(list, was) {
				t.Fatal("what was handed in has changed")
			}
			clear(list)
			wantPieces(t, got, p)
			wantNumber(t, u, unit, "the unit")
			copy(list, was)
		}
	}
}

// R3, R6: what Pieces answers is the caller's, the room behind its ends too; what is
// written there no later call shows, and no answer of ahead.
func TestPiecesAreTheCallers(t *testing.T) {
	for _, p := range someLevels() {
		s := made(t, p)
		other := s.Pieces()
		for range 3 {
			spoil(s.Pieces())
			wantPieces(t, other, p)
			wantSchedule(t, s, p)
		}
	}
	for _, list := range someBrackets() {
		u := number(t, q("1/3"))
		p, _ := plainPieces(list, q("1/3"))
		other, _ := schedule.Pieces(list, u)
		for range 3 {
			spoiled, _ := schedule.Pieces(list, u)
			spoil(spoiled)
			wantPieces(t, other, p)
		}
	}
}

// R3: no two lists of one answer share any memory, behind their ends either.
func TestListsShareNothing(t *testing.T) {
	answers := [][]api.Piece{}
	for _, p := range someLevels() {
		answers = append(answers, made(t, p).Pieces())
	}
	for _, list := range someBrackets() {
		told, _ := schedule.Pieces(list, number(t, q("100")))
		answers = append(answers, told)
	}
	for _, list := range answers {
		var all []*[]uint64
		for i := range list {
			four := lists(&list[i])
			all = append(all, four[:]...)
		}
		for i, own := range all {
			room := (*own)[:cap(*own)]
			for k := range room {
				room[k] = uint64(1000 + i)
			}
		}
		for i, own := range all {
			for _, limb := range (*own)[:cap(*own)] {
				if limb != uint64(1000+i) {
					t.Fatal("two lists share memory")
				}
			}
		}
	}
}

// R3, R5: the numbers that are told are values: what is done with one, or written to
// the lists that it tells, is not seen in the schedule.
func TestNumbersAreTheCallers(t *testing.T) {
	for _, p := range someLevels() {
		s := made(t, p)
		base := number(t, p[len(p)-1].above)
		for range 2 {
			next, _ := s.Next(number(t, q("-1")))
			slope, _ := s.Slope(base)
			comes, _ := s.At(base)
			for _, r := range []rat.Rat{next, slope, comes, base} {
				told := r.Plain()
				for _, l := range [][]uint64{told.Num, told.Den, r.Num().Abs().Limbs(), r.Den().Limbs()} {
					l = l[:cap(l)]
					for i := range l {
						l[i] = 77
					}
				}
			}
			wantNumber(t, base, p[len(p)-1].above, "the base")
			wantSchedule(t, s, p)
		}
	}
}

// R6: what is answered does not hang on what was asked ahead, nor on other schedules.
func TestSchedulesByThemselves(t *testing.T) {
	a, b := made(t, exampleLevels()), made(t, exampleLevels())
	other := levels("0", "1", "100", "1/2")
	c := made(t, other)
	for _, base := range []string{"1000", "0", "150", "100", "-1", "1001/2", "50"} {
		a.At(number(t, q(base)))
		c.At(number(t, q(base)))
		a.Slope(number(t, q(base)))
		a.Next(number(t, q(base)))
		spoil(a.Pieces())
	}
	wantSchedule(t, a, exampleLevels())
	wantSchedule(t, b, exampleLevels())
	wantSchedule(t, c, other)
	wantNoAt(t, a, q("-1"), api.ErrArg)
	wantSchedule(t, a, exampleLevels())
}

// R8: calls on unlike schedules may be made at one time; and asking one changes
// nothing of it.
func TestAtOneTime(t *testing.T) {
	roll := dice(107)
	p := roll.long(8)
	shared, list := made(t, p), p.pieces()
	base := number(t, longBases()[10])
	want := p.at(longBases()[10])
	sound := func(s *schedule.Schedule) bool {
		got, e := s.At(base)
		slope, err := s.Slope(base)
		_, is := s.Next(base)
		told, _ := plainOf(s.Pieces())
		return e == api.OK && err == api.OK && ofRatio(got.Plain()).Cmp(want) == 0 && slope.Sign() > 0 && is == (p.next(longBases()[10]) != nil) && len(told) == 8
	}
	done := make(chan bool)
	for range 8 {
		go func() {
			own, _ := schedule.Of(list)
			ok := true
			for range 20 {
				told, e := schedule.Pieces(example(), number(t, q("1/3")))
				ok = ok && sound(own) && sound(shared) && e == api.OK && len(told) == 3 && schedule.Check(example()) == api.OK
			}
			done <- ok
		}()
	}
	for range 8 {
		if !<-done {
			t.Error("calls at one time disturb each other")
		}
	}
}
