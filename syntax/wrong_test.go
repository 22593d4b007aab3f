package syntax_test

import (
	"strings"
	"testing"

	"tollbook/api"
	"tollbook/syntax"
	"tollbook/tokens"
)

// P14.1: the chapter's examples of what can't be read.
func TestWrongExamples(t *testing.T) {
	for src, col := range map[string]int{
		"vat": 1, "currency EUR;": 13, "currency EUR 12;": 14, "place de in;": 12, "place tax;": 7, "place a.b;": 7, "tax a in b round line;": 22, "rate a 1;": 9, "least a 1": 10, "exempt a when )": 15, "place place !": 7,
		"exempt a when " + strings.Repeat("not ", 16) + "not buyer b;": 14 + 64 + 1,
	} {
		wantSpot(t, src, api.ErrSyntax, 1, col)
	}
	wantSpot(t, "least a 99999999999999999999;", api.ErrOver, 1, 9)
	wantSpot(t, "least a 0.0000000001;", api.ErrOver, 1, 9)
	wantSpot(t, "exempt a from 2023-02-29;", api.ErrDate, 1, 15)
	wantSpot(t, "place a; !", api.ErrToken, 1, 10)
	wantSpot(t, "least a 1 !", api.ErrToken, 1, 11)
	wantSpot(t, "currency EUR 5;", api.ErrArg, 1, 1)
	wantSpot(t, " place "+strings.Repeat("a", 25)+";", api.ErrName, 1, 2)
}

// samples are declarations that have all of the grammar among them.
func samples() []string {
	return []string{
		"currency EUR 2 ;",
		"place a in b money EUR ;",
		"tax a in b round line even on c , d , e instead f , g ;",
		"tax a in b round invoice floor instead f ;",
		"rate a for b.c from 2024-01-01 to 2025-01-01 7.5 % , 10 % above 100 , 12 % above 200 ;",
		"rate a 1 % above 0 ;",
		"exempt a for b from 2024-01-01 to 2025-01-01 when not ( buyer b or line c and amount <= 5 ) or not not quantity > 2.5 ;",
		"exempt a ;",
		"least a from 2024-01-01 to 2025-01-01 1.5 ;",
		"least a 1 ; place b ;",
	}
}

// P14.1, P14.5: behind each beginning, each token, the end and what is no token.
// Where one can't stand, it is refused there, whatever comes behind it; where it
// can, there is a text that goes on with it and is read, or is refused as what
// it says may not be.
func TestEveryTokenEverywhere(t *testing.T) {
	t.Parallel()
	stands, fails := 0, 0
	for _, sample := range samples() {
		texts := strings.Fields(sample)
		for n := range len(texts) + 1 {
			head := strings.Join(texts[:n], " ") + " "
			for _, token := range everyToken() {
				wantPlain(t, head+token)
				wantPlain(t, head+token+" !")
				if wantGoingOn(t, head, token) {
					stands++
				} else {
					fails++
				}
				if n < len(texts) {
					wantPlain(t, head+token+" "+strings.Join(texts[n:], " "))
					wantPlain(t, head+token+" "+strings.Join(texts[n+1:], " "))
				}
			}
			wantPlain(t, head)
			wantPlain(t, head+"!")
			wantPlain(t, head+"# x")
			wantPlain(t, head+"_"+strings.Join(texts[n:], " "))
		}
	}
	if stands < 300 || fails < 3000 {
		t.Errorf("%d tokens can stand, %d can't", stands, fails)
	}
}

// wantGoingOn is whether the token can stand there, by the grammar as data.
func wantGoingOn(t *testing.T, head, token string) bool {
	t.Helper()
	list, spot := tokens.Cut(head + token)
	if spot.Err != api.OK {
		t.Fatalf("%q has no tokens", head+token)
	}
	w := newWatcher()
	for _, x := range list[:len(list)-2] {
		if !w.takes(x) {
			t.Fatalf("%q can't be gone through", head)
		}
	}
	x := list[len(list)-2]
	if !w.takes(x) {
		for _, rest := range []string{"", " ", " ;", " !", " x", "\nplace a;", " " + token, w.ways[0].rest()} {
			if _, spot := syntax.Parse(head + token + rest); spot != (api.Spot{Err: api.ErrSyntax, Line: x.Line, Col: x.Col}) {
				t.Errorf("Parse(%q) is refused with %v", head+token+rest, spot)
			}
		}
		return false
	}
	rest := w.ways[0].rest()
	_, got := syntax.Parse(head + token + rest)
	switch {
	case x.Kind == api.TokNumber && !isThere(token):
		if got != (api.Spot{Err: api.ErrOver, Line: x.Line, Col: x.Col}) {
			t.Errorf("Parse(%q) is refused with %v", head+token+rest, got)
		}
	case x.Kind == api.TokDate && !isDay(token):
		if got != (api.Spot{Err: api.ErrDate, Line: x.Line, Col: x.Col}) {
			t.Errorf("Parse(%q) is refused with %v", head+token+rest, got)
		}
	case got.Err == api.ErrSyntax || got.Err == api.ErrToken || got.Err == api.ErrOver || got.Err == api.ErrDate:
		t.Errorf("Parse(%q) is refused with %v", head+token+rest, got)
	}
	return true
}

// P14.1: a token that is refused ahead of, at and behind a place where another
// fault is.
func TestRefusedAndWrong(t *testing.T) {
	faults := []struct {
		head, token string
		err         api.Errno
	}{
		{"place ", "place", api.ErrSyntax},
		{"", ";", api.ErrSyntax},
		{"currency EUR ", "12", api.ErrSyntax},
		{"least a ", "99999999999999999999", api.ErrOver},
		{"rate a 1%, ", "0.00000000005", api.ErrOver},
		{"rate a from ", "2023-02-29", api.ErrDate},
		{"exempt a when " + strings.Repeat("(", 16), "(", api.ErrSyntax},
	}
	for _, f := range faults {
		for _, bad := range []string{"!", "=", "\xff", "\x00", "é", "7x", "EURO", "_a", "a..b", "2024-01", "A"} {
			at := len(f.head) + 1
			wantSpot(t, f.head+f.token+" "+bad, f.err, 1, at)
			wantSpot(t, f.head+f.token+"\n"+bad+"\n"+bad, f.err, 1, at)
			wantSpot(t, f.head+f.token+" ; ; "+bad, f.err, 1, at)
			if bad != "2024-01" { // which begins with a number
				wantSpot(t, bad+" "+f.head+f.token, api.ErrToken, 1, 1)
				wantSpot(t, "place a;\n "+bad+" "+f.head+f.token, api.ErrToken, 2, 2)
				wantSpot(t, f.head+bad+" "+f.token, api.ErrToken, 1, at)
				wantSpot(t, f.head+bad, api.ErrToken, 1, at)
			}
			wantPlain(t, bad+" "+f.head+f.token)
			wantPlain(t, f.head+bad+" "+f.token)
			wantPlain(t, f.head+f.token+bad)
		}
	}
	// What is behind the place that is refused plays no part.
	wantSpot(t, "place a; ! least b 99999999999999999999; ;", api.ErrToken, 1, 10)
	wantSpot(t, "place a;\n\n  place b; place c !\nplace place", api.ErrToken, 3, 20)
	wantSpot(t, "currency EUR 5; !", api.ErrToken, 1, 17)
	wantSpot(t, "#!\r\n place a\t!", api.ErrToken, 2, 10)
}

// P14.1: the end at each place of the book; each byte left out, put twice or
// changed.
func TestEveryByteOfABook(t *testing.T) {
	t.Parallel()
	bytes := []string{"!", ";", ",", " ", "\n", "#", "a", "Z", "7", "_", ".", "(", ")", "%", "<", "=", "-", "\xff", "\x00"}
	src := "currency EUR 2;\nplace de in eu money EUR;\ntax city in de round line even on vat;\nrate vat for food from 2020-01-01 to 2024-01-01 7.5%, 10% above 20;\nexempt vat when not (buyer a or amount>=5) and line b;\nleast city 1000;\n"
	for at := range len(src) {
		wantPlain(t, src[:at])
		wantPlain(t, src[at:])
		wantPlain(t, src[:at]+src[at+1:])
		wantPlain(t, src[:at]+src[at:at+1]+src[at:])
		for _, b := range bytes {
			wantPlain(t, src[:at]+b+src[at+1:])
			wantPlain(t, src[:at]+b+src[at:])
		}
	}
	for at := range len(book) + 1 {
		wantPlain(t, book[:at])
	}
}

// P14.1: all short rows of tokens in a condition, and in the parts of each
// kind.
func TestAllShortRows(t *testing.T) {
	t.Parallel()
	var all func(src string, texts []string, most int)
	all = func(src string, texts []string, most int) {
		wantPlain(t, src)
		for _, s := range texts {
			if most > 0 {
				all(src+" "+s, texts, most-1)
			}
		}
	}
	all("exempt a when", []string{"not", "(", ")", "or", "and", "buyer x", ";"}, 5)
	all("exempt a when buyer x", []string{"(", ")", "or", "and not", "line y", ";"}, 5)
	all("exempt a when", []string{"amount", "<", ">=", "5", "b"}, 4)
	all("rate a", []string{"for", "x", "from", "to", "2024-01-01", "2025-01-01", "5 %", ";"}, 5)
	all("rate a 1 %", []string{",", "2", "%", "above", ";"}, 6)
	all("place a", []string{"in", "b", "money", "EUR", ";"}, 5)
	all("tax a in b round", []string{"line", "up", "on", "instead", "c", ",", ";"}, 5)
	all("least a", []string{"from", "to", "2024-01-01", "1", ";"}, 5)
	all("", []string{"currency", "EUR", "2", "12", ";", "place", "x"}, 5)
}

// P14.1, P7: rows of tokens without an order, and declarations with one token
// changed, left out or moved.
func TestMixedRows(t *testing.T) {
	t.Parallel()
	x := mixed(141)
	every := append(everyToken(), "!", "a!")
	for range 2000 {
		src := ""
		for range x.below(8) {
			src += x.one(every) + x.one([]string{" ", "\n", " # x\n"})
		}
		wantPlain(t, src)
	}
	for range 2000 {
		var texts []string
		for _, d := range append(x.decls(2), x.decl()) {
			texts = append(texts, x.noisy(d)...)
		}
		at, to := x.below(len(texts)), x.below(len(texts))
		switch x.below(4) {
		case 0:
			texts[at] = x.one(every)
		case 1:
			texts[at] = ""
		case 2:
			texts[at], texts[to] = texts[to], texts[at]
		default:
			texts[at] += " " + x.one(every)
		}
		wantPlain(t, strings.Join(texts, x.one([]string{" ", "\n", " #\n"})))
	}
}
