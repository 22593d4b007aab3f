package curve_test

import (
	"math/big"
	"testing"

	"tollbook/api"
	"tollbook/curve"
	"tollbook/rat"
)

// manyCurves are some, and what is made of some of them.
func manyCurves(t *testing.T) []both {
	t.Helper()
	list := someCurves(t)
	n := len(list)
	for i := range n {
		a, b := list[i], list[(i*5+2)%n]
		list = append(list, add(t, a, b), after(t, a, b))
	}
	return list
}

// P21.5: two curves are the same just if their kinks are.
func TestSameIfKinksAre(t *testing.T) {
	list := manyCurves(t)
	alike := 0
	for i, a := range list {
		for k, b := range list {
			same := sameTold(a.made.Kinks(), b.made.Kinks())
			if curve.Same(a.made, b.made) != same || same != isSame(a.plain, b.plain) {
				t.Fatalf("%v and %v", a.plain, b.plain)
			}
			if same && i != k {
				alike++
			}
		}
	}
	if alike < 10 {
		t.Errorf("%d are alike", alike)
	}
}

func sameTold(a, b []api.Kink) bool {
	if len(a) != len(b) {
		return false
	}
	for i, k := range a {
		l := b[i]
		if ofRatio(k.X).Cmp(ofRatio(l.X)) != 0 || ofRatio(k.Y).Cmp(ofRatio(l.Y)) != 0 || ofRatio(k.Slope).Cmp(ofRatio(l.Slope)) != 0 {
			return false
		}
	}
	return true
}

// P21.5: Add is the same from both sides, with no slope it changes nothing, and After
// with Line(1) changes nothing.
func TestJoinFollows(t *testing.T) {
	list := manyCurves(t)
	one, none := line(t, q("1")), line(t, q("0"))
	for i, a := range list {
		b := list[(i*11+5)%len(list)]
		left, e := curve.Add(a.made, b.made)
		right, err := curve.Add(b.made, a.made)
		if e != err || e == api.OK && !curve.Same(left, right) {
			t.Fatalf("errors %d, %d", e, err)
		}
		for _, same := range []both{after(t, a, one), after(t, one, a), add(t, a, none), add(t, none, a)} {
			if !curve.Same(same.made, a.made) {
				t.Fatalf("%v", a.plain)
			}
		}
		if still := after(t, a, none); !curve.Same(still.made, none.made) {
			t.Fatalf("%v", a.plain)
		}
	}
}

// at is what a curve tells of x.
func at(t *testing.T, b both, x *big.Rat) *big.Rat {
	t.Helper()
	y, e := b.made.At(number(t, x))
	if e != api.OK {
		t.Fatalf("error %d", e)
	}
	return ofRatio(y.Plain())
}

// P21.5: where Solve answers, At of it is y; Solve of At(x) is x.
func TestSolveIsAtTurned(t *testing.T) {
	solved := 0
	for _, b := range manyCurves(t) {
		if b.plain.isFlat() {
			continue
		}
		for _, x := range b.plain.about(false) {
			back, e := b.made.Solve(number(t, at(t, b, x)))
			if e != api.OK {
				t.Fatalf("error %d", e)
			}
			wantNumber(t, back, x, "Solve of At")
		}
		for _, y := range b.plain.about(true) {
			x, e := b.made.Solve(number(t, y))
			if e != api.OK {
				t.Fatalf("error %d", e)
			}
			back, e := b.made.At(x)
			if e != api.OK {
				t.Fatalf("error %d", e)
			}
			wantNumber(t, back, y, "At of Solve")
			solved++
		}
	}
	if solved < 300 {
		t.Errorf("%d were solved", solved)
	}
}

// P21.5: between two kinks, and behind the last one, a curve rises by the Slope of the
// kink ahead; and at a kink it is Y; at 0 it is 0.
func TestRisesBySlope(t *testing.T) {
	for _, b := range manyCurves(t) {
		list := b.made.Kinks()
		for i, k := range list {
			from, slope := ofRatio(k.X), ofRatio(k.Slope)
			end := plus(from, q("1000"))
			if i+1 < len(list) {
				end = ofRatio(list[i+1].X)
			}
			y := at(t, b, from)
			if y.Cmp(ofRatio(k.Y)) != 0 {
				t.Fatalf("%v at %v", y, from)
			}
			for _, part := range []string{"0", "1/1000000007", "1/3", "1/2", "6/7", "1"} {
				x := plus(from, times(minus(end, from), q(part)))
				if minus(at(t, b, x), y).Cmp(times(slope, minus(x, from))) != 0 {
					t.Fatalf("from %v to %v", from, x)
				}
			}
		}
		if y := at(t, b, q("0")); y.Sign() != 0 {
			t.Fatalf("%v at 0", y)
		}
	}
}

// P21.2, P21.5: a sum is at each x both values together, one put into another what it is
// at the other's value.
func TestJoinedValues(t *testing.T) {
	list := manyCurves(t)
	for i, a := range list {
		b := list[(i*13+7)%len(list)]
		sum, put := add(t, a, b), after(t, a, b)
		for _, x := range append(a.plain.about(false)[:6], b.plain.about(false)[:6]...) {
			n := number(t, x)
			one, _ := a.made.At(n)
			two, _ := b.made.At(n)
			both, _ := rat.Add(one, two)
			got, e := sum.made.At(n)
			if e != api.OK || rat.Compare(got, both) != 0 {
				t.Fatalf("error %d", e)
			}
			want, _ := a.made.At(two)
			if got, e = put.made.At(n); e != api.OK || rat.Compare(got, want) != 0 {
				t.Fatalf("error %d", e)
			}
		}
	}
}
