package tokens_test

// What the tests hold the package against: each kind's texts as a regular
// expression, the longest token by trying all lengths, places by counting the
// bytes 10 ahead, with nothing of the package in it.

import (
	"regexp"
	"slices"
	"strings"
	"testing"

	"tollbook/api"
	"tollbook/tokens"
)

// forms has at each kind what a token of it is.
var forms = [...]*regexp.Regexp{
	api.TokWord:   regexp.MustCompile(`\A[a-z][a-z0-9_]*([.][a-z][a-z0-9_]*)*\z`),
	api.TokCode:   regexp.MustCompile(`\A[A-Z]{3}\z`),
	api.TokNumber: regexp.MustCompile(`\A[0-9]+([.][0-9]+)?\z`),
	api.TokDate:   regexp.MustCompile(`\A[0-9]{4}-[0-9]{2}-[0-9]{2}\z`),
	api.TokMark:   regexp.MustCompile(`\A(;|,|\(|\)|%|<|>|<=|>=)\z`),
}

const (
	blanks = " \t\n\r"
	// clings has all that may not stand right behind a word, a code, a number or
	// a date.
	clings = "abcdefghijklmnopqrstuvwxyzABCDEFGHIJKLMNOPQRSTUVWXYZ0123456789_."
)

// keptList is the chapter's, as it stands there.
const keptList = "currency, place, tax, rate, exempt, least, in, money, round, line, invoice, on, instead, for, from, to, when, or, and, not, buyer, amount, quantity, above, floor, ceil, up, down, even"

func kept() []string {
	return strings.Split(keptList, ", ")
}

func marks() []string {
	return []string{";", ",", "(", ")", "%", "<", ">", "<=", ">="}
}

func token(kind api.TokenKind, text string, line, col int) api.Token {
	return api.Token{Kind: kind, Text: text, Line: line, Col: col}
}

func wrong(line, col int) api.Spot {
	return api.Spot{Err: api.ErrToken, Line: line, Col: col}
}

// plainKind is of what kind a whole text is, 0 if it is no token.
func plainKind(text string) api.TokenKind {
	for kind, form := range forms {
		if form != nil && form.MatchString(text) {
			return api.TokenKind(kind)
		}
	}
	return 0
}

// plainKinds remembers, for many texts are made of the same few.
type plainKinds map[string]api.TokenKind

func (k plainKinds) of(text string) api.TokenKind {
	kind, known := k[text]
	if !known {
		kind = plainKind(text)
		k[text] = kind
	}
	return kind
}

func plainPlace(src string, at int) (int, int) {
	return 1 + strings.Count(src[:at], "\n"), at - strings.LastIndex(src[:at], "\n")
}

// plainPass is the place of the first byte from at on that is of no blank and no
// remark.
func plainPass(src string, at int) int {
	for at < len(src) {
		switch {
		case strings.Contains(blanks, src[at:at+1]):
			at++
		case src[at] == '#':
			ahead, _, _ := strings.Cut(src[at:], "\n")
			at += len(ahead)
		default:
			return at
		}
	}
	return at
}

// plainCut is for short texts: it tries all lengths.
func plainCut(k plainKinds, src string) ([]api.Token, api.Spot) {
	var list []api.Token
	for at := plainPass(src, 0); at < len(src); at = plainPass(src, at) {
		line, col := plainPlace(src, at)
		end := len(src)
		for end > at && k.of(src[at:end]) == 0 {
			end--
		}
		kind := k.of(src[at:end])
		if kind == 0 || kind != api.TokMark && end < len(src) && strings.Contains(clings, src[end:end+1]) {
			return nil, wrong(line, col)
		}
		list = append(list, token(kind, src[at:end], line, col))
		at = end
	}
	line, col := plainPlace(src, len(src))
	return append(list, token(api.TokEnd, "", line, col)), api.Spot{}
}

func wantPlain(t *testing.T, k plainKinds, src string) {
	t.Helper()
	want, wantSpot := plainCut(k, src)
	if list, spot := tokens.Cut(src); !slices.Equal(list, want) || spot != wantSpot {
		t.Errorf("Cut(%q) is %v, %v, want %v, %v", short(src), list, spot, want, wantSpot)
	}
}

// wantTokens asks for the tokens and the end behind them.
func wantTokens(t *testing.T, src string, want ...api.Token) {
	t.Helper()
	line, col := plainPlace(src, len(src))
	want = append(slices.Clone(want), token(api.TokEnd, "", line, col))
	if list, spot := tokens.Cut(src); !slices.Equal(list, want) || spot != (api.Spot{}) {
		t.Errorf("Cut(%q) is %v, %v, want %v", short(src), few(list), spot, few(want))
	}
}

// wantTexts asks for kinds and texts, which stand by turns, and that each text
// stands at its place.
func wantTexts(t *testing.T, src string, want ...any) {
	t.Helper()
	list, spot := tokens.Cut(src)
	if len(list) != len(want)/2+1 || spot != (api.Spot{}) {
		t.Errorf("Cut(%q) is %v, %v, want %v", short(src), list, spot, want)
		return
	}
	for i, x := range list[:len(want)/2] {
		if x.Kind != want[2*i] || x.Text != want[2*i+1] {
			t.Errorf("Cut(%q) has %v at %d, want %v, %v", short(src), x, i, want[2*i], want[2*i+1])
		}
	}
	wantAllThere(t, src, list)
}

func wantWrong(t *testing.T, src string, line, col int) {
	t.Helper()
	wantSpot(t, src, wrong(line, col))
}

func wantSpot(t *testing.T, src string, want api.Spot) {
	t.Helper()
	if list, spot := tokens.Cut(src); len(list) != 0 || spot != want {
		t.Errorf("Cut(%q) is %v, %v, want %v", short(src), few(list), spot, want)
	}
}

// wantAllThere is P12.3: each text stands at its place, and between them there
// are blanks and remarks alone; the last token is the end.
func wantAllThere(t *testing.T, src string, list []api.Token) {
	t.Helper()
	at, line, start := 0, 1, 0
	for i, x := range list {
		for at = plainPass(src, at); line < x.Line; line++ {
			start += strings.Index(src[start:], "\n") + 1
		}
		isEnd := i == len(list)-1
		if start+x.Col-1 != at || !strings.HasPrefix(src[at:], x.Text) || isEnd != (x.Kind == api.TokEnd) || isEnd != (x.Text == "") {
			t.Errorf("Cut(%q): the token %v is not at the byte %d", short(src), x, at)
			return
		}
		at += len(x.Text)
	}
	if at != len(src) {
		t.Errorf("Cut(%q) ends at the byte %d", short(src), at)
	}
}

func short(s string) string {
	if len(s) > 80 {
		return s[:40] + ".." + s[len(s)-38:]
	}
	return s
}

// few are the first ones of many tokens, with short texts.
func few(list []api.Token) []api.Token {
	list = slices.Clone(list[:min(len(list), 20)])
	for i := range list {
		list[i].Text = short(list[i].Text)
	}
	return list
}

// everyByte is all bytes as texts.
func everyByte() []string {
	all := make([]string, 256)
	for i := range all {
		all[i] = string([]byte{byte(i)})
	}
	return all
}

// mixed tells numbers without an order, the same ones in every run.
type mixed uint64

func (x *mixed) next() uint64 {
	*x += 0x9e3779b97f4a7c15
	z := uint64(*x)
	z = (z ^ z>>30) * 0xbf58476d1ce4e5b9
	z = (z ^ z>>27) * 0x94d049bb133111eb
	return z ^ z>>31
}

func (x *mixed) below(n int) int {
	return int(x.next() % uint64(n))
}

func (x *mixed) one(list []string) string {
	return list[x.below(len(list))]
}

// The plain ways are themselves held against what anyone knows.
func TestPlain(t *testing.T) {
	for text, want := range map[string]api.TokenKind{
		"a": api.TokWord, "food.bread": api.TokWord, "a_1.b2_": api.TokWord, "EUR": api.TokCode, "7": api.TokNumber, "007": api.TokNumber, "7.50": api.TokNumber, "2024-01-31": api.TokDate, "9999-99-99": api.TokDate, "<": api.TokMark, ">=": api.TokMark,
		"": 0, "a.": 0, ".a": 0, "a..b": 0, "a.1": 0, "_a": 0, "EU": 0, "EURO": 0, "Eur": 0, "7.": 0, ".7": 0, "1.2.3": 0, "-1": 0, "2024-1-31": 0, "2024-01-3": 0, "a\n": 0, "=": 0, "==": 0, "<>": 0, ";;": 0, " ": 0, "#": 0, "é": 0, "\xff": 0,
	} {
		if plainKind(text) != want {
			t.Errorf("the plain kind of %q is %d", text, plainKind(text))
		}
	}
	src := "a \n# b\n\r c"
	if line, col := plainPlace(src, len(src)-1); line != 3 || col != 3 || plainPass(src, 1) != len(src)-1 || plainPass(src, len(src)) != len(src) {
		t.Error("plain places")
	}
	if list, spot := plainCut(plainKinds{}, "a <=2"); len(list) != 4 || list[1] != token(api.TokMark, "<=", 1, 3) || list[3] != token(api.TokEnd, "", 1, 6) || spot != (api.Spot{}) {
		t.Errorf("the plain cut is %v, %v", list, spot)
	}
	if list, spot := plainCut(plainKinds{}, "a\n 2x"); len(list) != 0 || spot != wrong(2, 2) {
		t.Errorf("the plain cut is %v, %v", list, spot)
	}
	if len(kept()) != 29 || kept()[0] != "currency" || kept()[28] != "even" {
		t.Error("the kept words")
	}
}
