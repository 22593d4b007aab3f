package curve_test

import (
	"testing"

	"tollbook/api"
	"tollbook/curve"
)

// P21.1, P21.4: the first of the chapter's examples.
func TestMakeExamples(t *testing.T) {
	wantKinks(t, exampleP(t).made.Kinks(), kinks("0", "0", "1/10", "100", "10", "1/5"))
	wantKinks(t, line(t, q("1")).made.Kinks(), kinks("0", "0", "1"))
	wantKinks(t, of(t, "0", "1/2", "10", "1/2").made.Kinks(), kinks("0", "0", "1/2"))
	if c, e := curve.Line(number(t, q("-1"))); c != nil || e != api.ErrArg {
		t.Errorf("error %d", e)
	}
	if c, e := curve.Line(number(t, two(192, 0))); c != nil || e != api.ErrLong {
		t.Errorf("error %d", e)
	}
}

// P21.3: the second and the fifth.
func TestAskExamples(t *testing.T) {
	p, other, l := exampleP(t), exampleQ(t), line(t, q("1"))
	sum := add(t, p, l)
	for _, c := range []struct {
		of both
		x  string
		y  string
	}{{p, "0", "0"}, {p, "150", "20"}, {l, "7/3", "7/3"}, {sum, "0", "0"}, {sum, "50", "55"}, {sum, "100", "110"}, {sum, "150", "170"}} {
		y, e := c.of.made.At(number(t, q(c.x)))
		if e != api.OK {
			t.Errorf("error %d", e)
		}
		wantNumber(t, y, q(c.y), "At")
		x, e := c.of.made.Solve(number(t, q(c.y)))
		if e != api.OK {
			t.Errorf("error %d", e)
		}
		wantNumber(t, x, q(c.x), "Solve")
	}
	for _, y := range []string{"0", "1", "1000"} {
		if x, e := other.made.Solve(number(t, q(y))); e != api.ErrCurve || x.Sign() != 0 {
			t.Errorf("error %d", e)
		}
	}
	for _, b := range []both{p, other, l} {
		if y, e := b.made.At(number(t, q("-1"))); e != api.ErrArg || y.Sign() != 0 {
			t.Errorf("error %d", e)
		}
		if x, e := b.made.Solve(number(t, q("-1"))); e != api.ErrArg || x.Sign() != 0 {
			t.Errorf("error %d", e)
		}
	}
}

// P21.2: the third and the fourth.
func TestJoinExamples(t *testing.T) {
	p, other, l := exampleP(t), exampleQ(t), line(t, q("1"))
	for _, c := range []struct {
		got  both
		want plain
	}{
		{add(t, p, l), kinks("0", "0", "11/10", "100", "110", "6/5")},
		{add(t, p, other), kinks("0", "0", "1/10", "50", "5", "3/5", "100", "35", "7/10")},
		{add(t, of(t, "0", "1/2", "10", "1/3"), of(t, "0", "1/3", "10", "1/2")), kinks("0", "0", "5/6")},
		{after(t, p, other), kinks("0", "0", "0", "50", "0", "1/20", "250", "10", "1/10")},
		{after(t, other, p), kinks("0", "0", "0", "300", "0", "1/10")},
		{after(t, l, p), p.plain},
		{after(t, p, l), p.plain},
	} {
		wantKinks(t, c.got.made.Kinks(), c.want)
	}
}
