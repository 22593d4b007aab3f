package decimal_test

import (
	"slices"
	"strings"
	"testing"

	"tollbook/api"
	"tollbook/decimal"
	"tollbook/rat"
	"tollbook/whole"
)

// P6.7: there and back, by texts, by ratios and by parts.
func TestThereAndBack(t *testing.T) {
	for _, d := range someDecs() {
		text, e := decimal.Text(d)
		wantOK(t, e, "Text")
		wantParsed(t, text, d)
		r, e := decimal.Rat(d)
		wantOK(t, e, "Rat")
		wantOf(t, r, d, api.OK, text)
		if made, e := decimal.Make(d.Units, d.Places); made != d || e != api.OK {
			t.Errorf("Make(%d, %d) is %v, %d", d.Units, d.Places, made, e)
		}
	}
}

// P6.7: what is read is told not longer, and of all short texts of one worth
// none is shorter than Text.
func TestTextIsShortest(t *testing.T) {
	read := 0
	texts := []string{""}
	for from := 0; len(texts[from]) < 6; from++ {
		for _, b := range []byte("-.013") {
			texts = append(texts, texts[from]+string(rune(b)))
		}
	}
	for _, s := range texts {
		d, _, e := decimal.Parse(s)
		if e != api.OK {
			continue
		}
		read++
		if text, e := decimal.Text(d); e != api.OK || len(text) > len(s) {
			t.Errorf("%q is told as %q, %d", s, text, e)
		}
	}
	if read < 1000 {
		t.Errorf("only %d texts are read", read)
	}
}

// P6.7: Compare is the order of the worths: that of the ratios, and one that
// sorts by it has rising ratios.
func TestCompareIsTheOrder(t *testing.T) {
	decs := someDecs()
	slices.SortFunc(decs, func(a, b api.Dec) int {
		order, e := decimal.Compare(a, b)
		wantOK(t, e, "Compare")
		back, _ := decimal.Compare(b, a)
		if back != -order || (order == 0) != (a == b) {
			t.Errorf("Compare(%v, %v) is %d, and %d the other way", a, b, order, back)
		}
		return order
	})
	last := rat.Rat{}
	for i, d := range decs {
		r, _ := decimal.Rat(d)
		order, e := decimal.Compare(decs[max(i-1, 0)], d)
		if i > 0 && (rat.Compare(last, r) != order || order > 0 || e != api.OK) {
			t.Errorf("Compare(%v, %v) is %d, %d, of ratios %d", decs[i-1], d, order, e, rat.Compare(last, r))
		}
		last = r
	}
}

// P6.7: what is told is not above r, and by less than 10^-places below it; all
// without the sign.
func TestExpandIsNear(t *testing.T) {
	t.Parallel()
	x := mixed(6)
	for i := range 60 {
		num, den := "1"+x.digits(1+int(x.next()%uint64(10+30*i))), "1"+x.digits(int(x.next()%uint64(10+30*i)))
		r := over(t, num, den)
		for _, places := range []int{0, 1, 2, 50, 700, api.MaxExpand} {
			wantNear(t, r, places)
		}
	}
	wantNear(t, over(t, greatest(t), "7"), api.MaxExpand)
	wantNear(t, over(t, "7", greatest(t)), api.MaxExpand)
	wantNear(t, over(t, greatest(t), "1"+noughts(19000)), api.MaxExpand)
}

func wantNear(t *testing.T, r rat.Rat, places int) {
	t.Helper()
	text, just, e := decimal.Expand(r, places)
	wantOK(t, e, "Expand")
	below, justBelow, e := decimal.Expand(r.Neg(), places)
	if below != "-"+text || just != justBelow || e != api.OK {
		t.Errorf("below 0 to %d places: %q, %t, %d, not %q, %t", places, short(below), justBelow, e, short(text), just)
	}
	ahead, behind, _ := strings.Cut(text, ".")
	if len(behind) != places || ahead == "" || ahead != "0" && ahead[0] == '0' {
		t.Errorf("to %d places: %q", places, short(text))
	}
	// All of it times Den and ten to the power places, so that it is whole.
	scaled, e := whole.Mul(r.Num(), number(t, ten(places)))
	wantOK(t, e, "whole.Mul")
	den := whole.New(false, r.Den())
	told, e := whole.Mul(number(t, ahead+behind), den)
	wantOK(t, e, "whole.Mul")
	cut, e := whole.Sub(scaled, told)
	wantOK(t, e, "whole.Sub")
	if cut.Sign() < 0 || whole.Compare(cut, den) >= 0 || just != (cut.Sign() == 0) {
		t.Errorf("to %d places %q is cut off otherwise, just %t", places, short(text), just)
	}
}
