package curve_test

import (
	"testing"

	"tollbook/api"
	"tollbook/curve"
)

// P21.2, P21.4: all pairs of small curves: kinks at the same place, and beside one
// another; flat at the start, in the middle, at the end, and all along; Same.
func TestJoinSmall(t *testing.T) {
	list := append(smallCurves(t), line(t, q("2")), line(t, q("5/2")))
	for _, a := range list {
		for _, b := range list {
			wantJoined(t, a, b)
		}
	}
}

// P21.2 to P21.4: what is made of some is put together again, and asked.
func TestJoinMixed(t *testing.T) {
	roll := dice(97)
	list := someCurves(t)
	most := 0
	for range 120 {
		a, b := one(&roll, list), one(&roll, list)
		for _, c := range wantJoined(t, a, b) {
			if longest(c.plain) > 16 || len(c.plain) > 24 {
				continue
			}
			list = append(list, c)
			most = max(most, len(c.plain))
			if roll.below(4) == 0 {
				c.wantAll(t)
			}
		}
	}
	if most < 20 {
		t.Errorf("%d kinks came up", most)
	}
}

func longest(p plain) int {
	most := 0
	for _, b := range p {
		most = max(most, long(b.x), long(b.y), long(b.slope))
	}
	return most
}

// P21.2: where the one loses what the other gains there is no kink, at one place of
// several or at all of them.
func TestLostIsGained(t *testing.T) {
	for _, c := range []struct {
		a, b []string
		want plain
	}{
		{[]string{"0", "1/2", "10", "1/3"}, []string{"0", "1/3", "10", "1/2"}, kinks("0", "0", "5/6")},
		{[]string{"0", "1/2", "10", "1/3"}, []string{"0", "1/3", "11", "1/2"}, kinks("0", "0", "5/6", "10", "25/3", "2/3", "11", "9", "5/6")},
		{[]string{"0", "1/2", "10", "1/3", "20", "1/2", "30", "1"}, []string{"0", "0", "20", "1/6", "30", "0"}, kinks("0", "0", "1/2", "10", "5", "1/3", "20", "25/3", "2/3", "30", "15", "1")},
		{[]string{"0", "1", "10", "0"}, []string{"0", "0", "10", "1"}, kinks("0", "0", "1")},
		{[]string{"0", "1", "10", "0", "20", "1"}, []string{"0", "0", "10", "1", "20", "0"}, kinks("0", "0", "1")},
		{[]string{"0", "1", "10", "1/2", "20", "1"}, []string{"0", "0", "10", "1/2", "20", "1/4"}, kinks("0", "0", "1", "20", "20", "5/4")},
	} {
		a, b := of(t, c.a...), of(t, c.b...)
		wantKinks(t, add(t, a, b).made.Kinks(), c.want)
		wantKinks(t, add(t, b, a).made.Kinks(), c.want)
	}
	// Where g comes to 10 it rises half as much, where f is handed 10 twice as much.
	f, g := of(t, "0", "1/2", "10", "1"), of(t, "0", "1", "10", "1/2")
	wantKinks(t, after(t, f, g).made.Kinks(), kinks("0", "0", "1/2"))
	wantKinks(t, after(t, g, f).made.Kinks(), kinks("0", "0", "1/2", "10", "5", "1", "15", "10", "1/2"))
}

// P21.2: After of curves that stay flat, both ways round: at the start, in the middle,
// at the end, below a place of the other, just at it, and above it.
func TestAfterFlat(t *testing.T) {
	p := of(t, "0", "1/2", "10", "1")
	for _, c := range []struct {
		flat   []string
		within plain // p of flat
		over   plain // flat of p
	}{
		{[]string{"0", "0"}, kinks("0", "0", "0"), kinks("0", "0", "0")},
		{[]string{"0", "1", "9", "0"}, kinks("0", "0", "1/2", "9", "9/2", "0"), kinks("0", "0", "1/2", "10", "5", "1", "14", "9", "0")},
		{[]string{"0", "1", "10", "0"}, kinks("0", "0", "1/2", "10", "5", "0"), kinks("0", "0", "1/2", "10", "5", "1", "15", "10", "0")},
		{[]string{"0", "1", "11", "0"}, kinks("0", "0", "1/2", "10", "5", "1", "11", "6", "0"), kinks("0", "0", "1/2", "10", "5", "1", "16", "11", "0")},
		{[]string{"0", "1", "10", "0", "20", "1"}, kinks("0", "0", "1/2", "10", "5", "0", "20", "5", "1"), kinks("0", "0", "1/2", "10", "5", "1", "15", "10", "0", "25", "10", "1")},
		{[]string{"0", "1", "9", "0", "20", "1"}, kinks("0", "0", "1/2", "9", "9/2", "0", "20", "9/2", "1/2", "21", "5", "1"), kinks("0", "0", "1/2", "10", "5", "1", "14", "9", "0", "25", "9", "1")},
		{[]string{"0", "0", "5", "1"}, kinks("0", "0", "0", "5", "0", "1/2", "15", "5", "1"), kinks("0", "0", "0", "10", "0", "1")},
		{[]string{"0", "0", "5", "1/2", "9", "0"}, kinks("0", "0", "0", "5", "0", "1/4", "9", "1", "0"), kinks("0", "0", "0", "10", "0", "1/2", "14", "2", "0")},
		{[]string{"0", "1", "5", "0", "10", "1/3"}, kinks("0", "0", "1/2", "5", "5/2", "0", "10", "5/2", "1/6", "25", "5", "1/3"), kinks("0", "0", "1/2", "10", "5", "0", "15", "5", "1/3")},
	} {
		flat := of(t, c.flat...)
		wantKinks(t, after(t, p, flat).made.Kinks(), c.within)
		wantKinks(t, after(t, flat, p).made.Kinks(), c.over)
		wantJoined(t, p, flat)
		wantJoined(t, flat, flat)
	}
}

// P21.4: Same of curves that are the same though made otherwise, and of such as differ
// in one thing.
func TestSame(t *testing.T) {
	p, l := exampleP(t), line(t, q("1"))
	for _, c := range [][2]both{
		{p, p},
		{p, exampleP(t)},
		{p, of(t, "0", "1/10", "50", "1/10", "100", "1/5", "200", "1/5")},
		{l, of(t, "0", "1")},
		{line(t, q("0")), of(t, "0", "0", "5", "0")},
		{add(t, p, l), add(t, l, p)},
		{p, after(t, p, l)},
		{p, after(t, l, p)},
		{line(t, q("5/6")), add(t, of(t, "0", "1/2", "10", "1/3"), of(t, "0", "1/3", "10", "1/2"))},
		{line(t, q("6")), after(t, line(t, q("2")), line(t, q("3")))},
		{line(t, q("5")), add(t, line(t, q("2")), line(t, q("3")))},
		{of(t, "0", "0", "50", "1/2"), after(t, of(t, "0", "0", "25", "1"), line(t, q("1/2")))},
		{p, add(t, p, line(t, q("0")))},
	} {
		if !curve.Same(c[0].made, c[1].made) || !curve.Same(c[1].made, c[0].made) {
			t.Errorf("%v and %v", c[0].plain, c[1].plain)
		}
	}
	others := []both{
		p, line(t, q("1/10")), line(t, q("1/5")), of(t, "0", "1/10", "100", "1/4"), of(t, "0", "1/10", "99", "1/5"), of(t, "0", "1/9", "100", "1/5"),
		of(t, "0", "1/10", "100", "1/5", "1000", "1/4"), of(t, "0", "1/10", "100", "1/5", "1000", "0"), of(t, "0", "1/10", "50", "0", "100", "1/5"), line(t, q("0")), exampleQ(t),
		of(t, "0", "0", "50", "1/2", "1000", "1"), add(t, p, line(t, over(q("1"), two(191, 0)))),
	}
	for i, a := range others {
		for k, b := range others {
			if curve.Same(a.made, b.made) != (i == k) {
				t.Errorf("%v and %v", a.plain, b.plain)
			}
		}
	}
}

// P21.2: curves put together with themselves, over and over, until they are long.
func TestJoinThemselves(t *testing.T) {
	b := add(t, of(t, "0", "1/2", "1", "0", "2", "1/2", "3", "1/3"), line(t, q("1")))
	for range 12 {
		p := plainAfter(b.plain, b.plain)
		c, e := curve.After(b.made, b.made)
		if p.isLong() {
			if e != api.ErrLong || c != nil {
				t.Fatalf("error %d", e)
			}
			return
		}
		b = took(t, c, e, p)
	}
	t.Error("never long")
}
