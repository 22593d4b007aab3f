package curve_test

import (
	"testing"

	"tollbook/api"
	"tollbook/curve"
)

// noCurves are such as are not there, or that no call made.
func noCurves() []*curve.Curve {
	refused, _ := curve.Of(nil)
	joined, _ := curve.Add(nil, nil)
	return []*curve.Curve{nil, {}, new(curve.Curve), refused, joined}
}

// P21.3, P21.4, R4: of no curve nothing is told; ErrNil goes ahead of all else.
func TestNoCurve(t *testing.T) {
	fit, long := asked()
	for _, none := range noCurves() {
		if len(none.Kinks()) != 0 {
			t.Error("kinks of no curve")
		}
		for _, r := range append(append(fit, long...), q("0"), q("1"), q("150")) {
			b := both{made: none}
			wantNot(t, b, r, api.ErrNil)
			wantNot(t, b, minusOf(r), api.ErrNil)
		}
	}
}

// P21.2, P21.4, R4: nothing is put together with no curve, and it is the same as none,
// itself neither.
func TestJoinNoCurve(t *testing.T) {
	end := uint(mostLimbs * limbBits)
	top := took(t, wholeLine(t, two(end, -1)), api.OK, plain{{q("0"), q("0"), two(end, -1)}})
	wantLong(t, curve.Add, top, top, "a slope of 641 limbs")
	curves := []*curve.Curve{exampleP(t).made, exampleQ(t).made, line(t, q("0")).made, top.made}
	for _, none := range noCurves() {
		for _, c := range append(curves, noCurves()...) {
			for _, pair := range [][2]*curve.Curve{{none, c}, {c, none}} {
				sum, one := curve.Add(pair[0], pair[1])
				put, two := curve.After(pair[0], pair[1])
				if one != api.ErrNil || two != api.ErrNil || sum != nil || put != nil {
					t.Errorf("errors %d, %d", one, two)
				}
				if curve.Same(pair[0], pair[1]) {
					t.Error("the same as no curve")
				}
			}
		}
	}
}
