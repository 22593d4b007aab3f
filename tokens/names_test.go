package tokens_test

import (
	"regexp"
	"slices"
	"strings"
	"testing"

	"tollbook/api"
	"tollbook/tokens"
)

var part = regexp.MustCompile(`\A[a-z][a-z0-9_]*\z`)

// wantNames holds Word and Code against the chapter's words.
func wantNames(t *testing.T, s string) {
	t.Helper()
	isWord := part.MatchString(s) && len(s) <= api.MaxName && !slices.Contains(kept(), s)
	if tokens.Word(s) != isWord {
		t.Errorf("Word(%q) is %t", short(s), !isWord)
	}
	isCode := forms[api.TokCode].MatchString(s)
	if tokens.Code(s) != isCode {
		t.Errorf("Code(%q) is %t", short(s), !isCode)
	}
}

// P12.2: the chapter's examples.
func TestNamesExamples(t *testing.T) {
	for _, s := range []string{"vat", "a", "a_1"} {
		if !tokens.Word(s) {
			t.Errorf("Word(%q)", s)
		}
	}
	for _, s := range []string{"Vat", "1a", "food.bread", "", "tax", "even", strings.Repeat("a", 25)} {
		if tokens.Word(s) {
			t.Errorf("Word(%q)", s)
		}
	}
	if !tokens.Code("EUR") || tokens.Code("EURO") || tokens.Code("eur") {
		t.Error("codes")
	}
}

// P12.2: all texts of up to two bytes, of three bytes at the edges of what may
// be, and of up to four out of a few.
func TestNamesShort(t *testing.T) {
	for _, a := range append(everyByte(), "") {
		for _, b := range append(everyByte(), "") {
			wantNames(t, a+b)
			wantNames(t, "a"+a+b)
			wantNames(t, "EUR"+a+b)
		}
	}
	edges := strings.Split("@AMZ[`amz{/059:_^.-, \n\x00\x7f\x80\xc1\xe1\xff", "")
	for _, a := range edges {
		for _, b := range edges {
			for _, c := range edges {
				wantNames(t, a+b+c)
			}
		}
	}
	few := []string{"a", "n", "o", "t", "A", "Z", "0", "_", "."}
	for _, a := range few {
		for _, b := range few {
			for _, c := range few {
				for _, d := range few {
					wantNames(t, a+b+c+d)
				}
			}
		}
	}
}

// P12.2: each kept word is none that may be; what is a byte more, less or
// another one than it may be, unless it is kept itself.
func TestNamesKept(t *testing.T) {
	for _, s := range kept() {
		if tokens.Word(s) {
			t.Errorf("Word(%q)", s)
		}
		for _, other := range []string{s + "s", s + "_", s + "1", "x" + s, "x_" + s, s + s, s + "_" + s, strings.ReplaceAll(s, "e", "a")} {
			if !slices.Contains(kept(), other) && !tokens.Word(other) {
				t.Errorf("Word(%q) is false", other)
			}
		}
		for _, other := range []string{strings.ToUpper(s), strings.ToUpper(s[:1]) + s[1:], s + ".a", "a." + s, s + " ", " " + s, s + "\n", s + "\x00", s + ";", "_" + s, "1" + s} {
			wantNames(t, other)
			if tokens.Word(other) {
				t.Errorf("Word(%q)", other)
			}
		}
		for at := range len(s) {
			wantNames(t, s[:at])
			wantNames(t, s[at:])
			wantNames(t, s[:at]+s[at+1:])
			for _, b := range everyByte() {
				wantNames(t, s[:at]+b+s[at+1:])
				wantNames(t, s[:at]+b+s[at:])
			}
		}
	}
	// What a reader may take for kept words.
	for _, s := range []string{"eur", "mode", "by", "percent", "of", "is", "if", "less", "class", "date", "day", "net", "gross", "buyers", "lines", "taxes", "rates", "places", "off", "below", "trait", "policy", "inline", "true", "false", "nil", "null", "func"} {
		if !tokens.Word(s) {
			t.Errorf("Word(%q) is false", s)
		}
	}
}

// P12.2: words of MaxName bytes may be, those of a byte more not.
func TestNamesLong(t *testing.T) {
	for _, s := range []string{"a", "z", "ab", "a_", "x9", "abcdefghijklmnopqrstuvwxyz"} {
		for n := 1; n <= 60; n++ {
			text := strings.Repeat(s, 60)[:n]
			wantNames(t, text)
			if tokens.Word(text) != (n <= 24) {
				t.Errorf("Word(%q)", text)
			}
		}
		for _, n := range []int{255, 256, 257, 65536, 1<<20 + 3} {
			if tokens.Word(strings.Repeat(s, n)) || tokens.Code(strings.Repeat(strings.ToUpper(s), n)) {
				t.Errorf("%d times %q", n, s)
			}
		}
	}
	most := strings.Repeat("a", api.MaxName)
	for at := range api.MaxName {
		for _, b := range everyByte() {
			wantNames(t, most[:at]+b+most[at+1:])
			wantNames(t, most[:at]+b+most[at:])
		}
	}
}

// P12.2: codes are three capital letters, each of them.
func TestCodes(t *testing.T) {
	for _, s := range []string{"EUR", "AAA", "ZZZ", "XAZ", "NOT", "TAX"} {
		if !tokens.Code(s) || tokens.Word(s) {
			t.Errorf("%q", s)
		}
		for at := range 4 {
			for _, b := range everyByte() {
				wantNames(t, s[:at]+b+s[min(at+1, 3):])
				wantNames(t, s[:at]+b+s[at:])
			}
		}
	}
	for _, s := range []string{"", "E", "EU", "EURO", "EUREUR", "eur", "Eur", "EuR", "EUr", "EU1", "1EU", "E.R", " EUR", "EUR ", "EUR\n", "EUR;", "É", "ÉU", "EÉ", "EU\u0130", "\uff25\uff35\uff32", "\xc5\xd5\xd2"} {
		if tokens.Code(s) {
			t.Errorf("Code(%q)", s)
		}
	}
}
