package rounding_test

import (
	"strings"
	"testing"

	"tollbook/api"
	"tollbook/rounding"
)

func names() []string {
	return []string{"floor", "ceil", "up", "down", "even"}
}

// P7.1: each mode has its name, and each name its mode.
func TestNames(t *testing.T) {
	for i, m := range modes() {
		if s, ok := rounding.Name(m); s != names()[i] || !ok {
			t.Errorf("Name(%d) is %q, %t", m, s, ok)
		}
		if back, ok := rounding.Mode(names()[i]); back != m || !ok {
			t.Errorf("Mode(%q) is %d, %t", names()[i], back, ok)
		}
	}
	for m := api.Mode(-300); m <= 300; m++ {
		s, ok := rounding.Name(m)
		if ok != (1 <= m && m <= 5) || ok == (s == "") {
			t.Errorf("Name(%d) is %q, %t", m, s, ok)
		}
	}
}

// P7.1: what is no mode has no name.
func TestNoMode(t *testing.T) {
	for _, m := range wrongModes() {
		if s, ok := rounding.Name(m); s != "" || ok {
			t.Errorf("Name(%d) is %q, %t", m, s, ok)
		}
	}
}

// P7.1: what is no name has no mode: empty, in other letters, with more or less
// to it, longer than a name may be.
func TestNoName(t *testing.T) {
	wrong := []string{"", " ", "\x00", "é", "\xff", "0", "1", "half", "nearest", "trunc", "ceiling", "round", "updown", strings.Repeat("u", api.MaxName), strings.Repeat("up", api.MaxName), strings.Repeat("x", 1<<20)}
	for _, s := range names() {
		wrong = append(wrong, strings.ToUpper(s), strings.ToUpper(s[:1])+s[1:], s[:len(s)-1], s[1:], s+" ", " "+s, s+"\x00", "\x00"+s, s+s, s+"s", s+"\n", "mode"+s,
			s+strings.Repeat(" ", api.MaxName), strings.Repeat(s, api.MaxName), s[:len(s)-1]+string(rune(s[len(s)-1]+1)))
	}
	for _, s := range wrong {
		if m, ok := rounding.Mode(s); m != 0 || ok {
			t.Errorf("Mode(%.40q) is %d, %t", s, m, ok)
		}
	}
}
