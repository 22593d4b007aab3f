package traits_test

import (
	"slices"
	"strings"
	"testing"

	"tollbook/api"
	"tollbook/tokens"
	"tollbook/traits"
)

const keptList = "currency, place, tax, rate, exempt, least, in, money, round, line, invoice, on, instead, for, from, to, when, or, and, not, buyer, amount, quantity, above, floor, ceil, up, down, even"

func keptWords() []string {
	return strings.Split(keptList, ", ")
}

// noWords are texts that name nothing, kept words among them.
func noWords() []string {
	return append(keptWords(), "", "Vat", "vAT", "1a", "_a", "a-b", "a b", " a", "a ", "a\n", "a.b", ".", "a.", ".a", "é", "\xff", "a\x00", "EUR", "7", strings.Repeat("a", api.MaxName+1), strings.Repeat("a", 1000))
}

// everyByte is all bytes as texts.
func everyByte() []string {
	all := make([]string, 256)
	for i := range all {
		all[i] = string([]byte{byte(i)})
	}
	return all
}

func wantClass(t *testing.T, s string, parts ...string) {
	t.Helper()
	if got, err := traits.Class(s); !slices.Equal(got, parts) || err != api.OK {
		t.Errorf("Class(%.80q) is %q, %d, want %q", s, got, err, parts)
	}
}

func wantNoClass(t *testing.T, s string) {
	t.Helper()
	if got, err := traits.Class(s); len(got) != 0 || err != api.ErrClass {
		t.Errorf("Class(%.80q) is %q, %d", s, got, err)
	}
}

// slowClass are the parts of a class, none of what is no class.
func slowClass(s string) []string {
	parts := strings.Split(s, ".")
	for _, part := range parts {
		if !tokens.Word(part) {
			return nil
		}
	}
	if len(parts) > 8 {
		return nil
	}
	return parts
}

func wantSlowClass(t *testing.T, s string) {
	t.Helper()
	if parts := slowClass(s); parts != nil {
		wantClass(t, s, parts...)
	} else {
		wantNoClass(t, s)
	}
}

// P13.1: the chapter's examples.
func TestClassExamples(t *testing.T) {
	wantClass(t, "food.bread", "food", "bread")
	wantClass(t, "food", "food")
	for _, s := range []string{"", ".", "food.", ".food", "Food", "food..bread", "food.rate", "a.b.c.d.e.f.g.h.i"} {
		wantNoClass(t, s)
	}
}

// P13.1: classes of one part to MaxParts, short and long ones, and of one more.
func TestClassParts(t *testing.T) {
	for _, part := range []string{"a", "z9", "food", "a_1", "lines", strings.Repeat("x", api.MaxName)} {
		for n := 1; n <= 40; n++ {
			parts := slices.Repeat([]string{part}, n)
			if s := strings.Join(parts, "."); n <= 8 {
				wantClass(t, s, parts...)
			} else {
				wantNoClass(t, s)
			}
		}
	}
	wantClass(t, "a.b.c.d.e.f.g.h", "a", "b", "c", "d", "e", "f", "g", "h")
	wantClass(t, "b.a.b", "b", "a", "b")
}

// P13.1: each part must be a word: one that is none, at each place of classes of
// each length, an empty one among them.
func TestClassWrongParts(t *testing.T) {
	for n := range api.MaxParts {
		for at := range n + 1 {
			for _, wrong := range noWords() {
				parts := slices.Repeat([]string{"food"}, n+1)
				parts[at] = wrong
				wantSlowClass(t, strings.Join(parts, "."))
				if wrong != "a.b" {
					wantNoClass(t, strings.Join(parts, "."))
				}
			}
			parts := slices.Repeat([]string{"food"}, n+1)
			parts[at] = "foods"
			wantClass(t, strings.Join(parts, "."), parts...)
		}
	}
	for n := range 30 {
		wantNoClass(t, strings.Repeat(".", n))
		wantNoClass(t, "a"+strings.Repeat(".", n+2)+"a")
		wantNoClass(t, strings.Repeat("a.", n+1))
		wantNoClass(t, strings.Repeat(".a", n+1))
	}
	for _, s := range []string{strings.Repeat(".", 1<<24), strings.Repeat("a.", 1<<22) + "a", strings.Repeat("a", 1<<24), "a." + strings.Repeat("b", 1<<24)} {
		wantNoClass(t, s)
		if traits.Covers(s, s) || traits.Covers("", s) || traits.Covers("a", s) || traits.Covers(s, "a") {
			t.Errorf("Covers of %d bytes", len(s))
		}
	}
}

// P13.1: every byte at every place, in the place of the one there and ahead of
// it; and each byte left out.
func TestClassEveryByte(t *testing.T) {
	for _, s := range []string{"food.bread", "a", "a.b.c.d.e.f.g.h", "in_.no_t"} {
		for at := range len(s) + 1 {
			for _, b := range everyByte() {
				wantSlowClass(t, s[:at]+b+s[at:])
				wantSlowClass(t, s[:at]+b+s[min(at+1, len(s)):])
			}
			wantSlowClass(t, s[:at]+s[min(at+1, len(s)):])
		}
	}
}

// someClasses are classes, what is none, and the empty text.
func someClasses() []string {
	return append(noWords(), "a", "b", "aa", "ab", "a_", "a1", "a.a", "a.b", "a.ab", "aa.a", "ab.a", "b.a", "a.a.a", "a.a.b", "a.b.a", "b.a.a", "a.b.c", "a.b.c.d.e.f.g", "a.b.c.d.e.f.g.h", "a.b.c.d.e.f.g.i", "a.b.c.d.e.f.g.h.i", "a..b", "a.tax", "tax.a", "a.b.", ".a.b", "A.b", "food", "foo", "food.bread", "food.bre", "food.bread.rye", "food_bread", "fooda.bread")
}

// P13.1: each two of them.
func TestCovers(t *testing.T) {
	for _, x := range [][2]string{{"food", "food.bread"}, {"food.bread", "food.bread"}, {"", "food"}, {"", "a.b.c.d.e.f.g.h"}, {"a.b.c.d.e.f.g", "a.b.c.d.e.f.g.h"}} {
		if !traits.Covers(x[0], x[1]) {
			t.Errorf("Covers(%q, %q) is false", x[0], x[1])
		}
	}
	for _, x := range [][2]string{{"food.bread", "food"}, {"foo", "food"}, {"", ""}, {"food", ""}, {"x.", "food"}, {"Food", "Food"}, {"food.", "food.bread"}, {"food.bre", "food.bread"}, {".", "food"}, {"", "food."}, {"", "tax"}, {"bread", "food.bread"}, {"a.b.c.d.e.f.g.h", "a.b.c.d.e.f.g.h.i"}, {"", "a.b.c.d.e.f.g.h.i"}} {
		if traits.Covers(x[0], x[1]) {
			t.Errorf("Covers(%q, %q)", x[0], x[1])
		}
	}
	covering := 0
	for _, over := range someClasses() {
		for _, class := range someClasses() {
			first, parts := slowClass(over), slowClass(class)
			want := parts != nil && (over == "" || first != nil)
			for i := range first {
				want = want && i < len(parts) && first[i] == parts[i]
			}
			if traits.Covers(over, class) != want {
				t.Errorf("Covers(%.40q, %.40q) is %t", over, class, !want)
			}
			if want {
				covering++
			}
		}
	}
	if covering < 60 {
		t.Errorf("%d cover one another", covering)
	}
}
