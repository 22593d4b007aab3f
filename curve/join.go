package curve

import (
	"tollbook/api"
	"tollbook/rat"
)

// pair has the pieces of two curves that lie beside one another.
type pair[T any] struct {
	one   T
	other T
}

func Add(a, b *Curve) (*Curve, api.Errno) {
	if !a.isCurve() || !b.isCurve() {
		return nil, api.ErrNil
	}
	c := &Curve{}
	begins := func(k, l kink) int { return rat.Compare(k.x, l.x) }
	for _, p := range merge(a.kinks, b.kinks, begins) {
		x := p.one.x
		if begins(p.one, p.other) < 0 {
			x = p.other.x
		}
		slope := wideOf(p.one.slope).plus(wideOf(p.other.slope))
		if err := c.turn(wideOf(x), p.one.at(x).plus(p.other.at(x)), slope); err != api.OK {
			return nil, err
		}
	}
	return c, api.OK
}

// After goes up along g's values, which are f's places.
func After(f, g *Curve) (*Curve, api.Errno) {
	if !f.isCurve() || !g.isCurve() {
		return nil, api.ErrNil
	}
	c := &Curve{}
	for _, p := range merge(g.kinks, f.kinks, comes) {
		inner, outer := p.one, p.other
		x, y, ok := begun(inner, outer)
		if !ok {
			break
		}
		if err := c.turn(x, y, wideOf(inner.slope).times(wideOf(outer.slope))); err != api.OK {
			return nil, err
		}
	}
	return c, api.OK
}

// begun is where the pieces of both curves have begun, and what the outer one is there.
// None is told where the inner one stays ahead of the outer one's piece, which only its
// last piece does: the others come to where the next one begins.
func begun(inner, outer kink) (x, y wide, ok bool) {
	switch {
	case comes(inner, outer) >= 0:
		return wideOf(inner.x), outer.at(inner.y), true
	case inner.isFlat():
		return wide{}, wide{}, false
	}
	return inner.where(outer.x), wideOf(outer.y), true
}

// comes holds what the inner curve has come to against where the outer one's piece
// begins.
func comes(inner, outer kink) int {
	return rat.Compare(inner.y, outer.x)
}

// merge goes through the pieces of two curves side by side, from their first ones on,
// which must be level. Each pair has the pieces that have begun last; where pieces of
// both curves begin at the same place, they do so in one pair.
func merge[T any](one, other []T, compare func(one, other T) int) []pair[T] {
	var pairs []pair[T]
	for i, j := 0, 0; i < len(one) || j < len(other); {
		side := -1
		switch {
		case i == len(one):
			side = 1
		case j < len(other):
			side = compare(one[i], other[j])
		}
		if side <= 0 {
			i++
		}
		if side >= 0 {
			j++
		}
		pairs = append(pairs, pair[T]{one[i-1], other[j-1]})
	}
	return pairs
}

// turn lets a curve that is being made go on from (x, y) with slope. Where it goes on as
// it did there is no kink, however long x and y are; a slope that is too long is that of
// a kink.
func (c *Curve) turn(x, y, slope wide) api.Errno {
	s, err := slope.within(api.MaxCurve)
	switch {
	case err != api.OK:
		return err
	case c.goesOn(s):
		return api.OK
	case len(c.kinks) == api.MaxKinks:
		return api.ErrLong
	}
	lowX, errX := x.within(api.MaxCurve)
	lowY, errY := y.within(api.MaxCurve)
	if errX != api.OK || errY != api.OK {
		return api.ErrLong
	}
	c.kinks = append(c.kinks, kink{x: lowX, y: lowY, slope: s})
	return api.OK
}

func (c *Curve) goesOn(slope rat.Rat) bool {
	n := len(c.kinks)
	return n > 0 && rat.Compare(c.kinks[n-1].slope, slope) == 0
}
