package tokens_test

import (
	"strings"
	"testing"

	"tollbook/api"
)

const (
	word   = api.TokWord
	code   = api.TokCode
	number = api.TokNumber
	date   = api.TokDate
	mark   = api.TokMark
)

// P12.1: the chapter's examples.
func TestCutExamples(t *testing.T) {
	wantTokens(t, "tax vat in de;", token(word, "tax", 1, 1), token(word, "vat", 1, 5), token(word, "in", 1, 9), token(word, "de", 1, 12), token(mark, ";", 1, 14))
	wantTokens(t, "")
	wantTokens(t, " # x\n")
	wantTexts(t, "rate vat for food.bread 7.5%>=2024-01-31", word, "rate", word, "vat", word, "for", word, "food.bread", number, "7.5", mark, "%", mark, ">=", date, "2024-01-31")
	wantTexts(t, "EUR 2<3", code, "EUR", number, "2", mark, "<", number, "3")
	wantTexts(t, "a(b)c", word, "a", mark, "(", word, "b", mark, ")", word, "c")
	wantTexts(t, "1 2", number, "1", number, "2")
	wantTexts(t, "a#b", word, "a")
}

// P12.1: the places of the end, told by themselves.
func TestCutEnd(t *testing.T) {
	for _, c := range []struct {
		src       string
		line, col int
	}{{"", 1, 1}, {" ", 1, 2}, {"\t\r", 1, 3}, {"\n", 2, 1}, {"\r\n", 2, 1}, {"\n\r", 2, 2}, {"\n\n\n", 4, 1}, {"\n \n  ", 3, 3}, {" # x\n", 2, 1}, {"#", 1, 2}, {"#\n", 2, 1}, {"#\n#", 2, 2}, {"# x", 1, 4}, {"#\r \t", 1, 5}, {"# é", 1, 5}, {"##\n ##", 2, 4}, {strings.Repeat("\n", 1000), 1001, 1}} {
		if line, col := plainPlace(c.src, len(c.src)); line != c.line || col != c.col {
			t.Errorf("the plain place behind %q is %d, %d", c.src, line, col)
		}
		wantTokens(t, c.src)
	}
}

// P12.1: each blank parts tokens, only a byte 10 begins a line.
func TestCutBlanks(t *testing.T) {
	for _, blank := range []string{" ", "\t", "\r", "  ", "\t \r"} {
		wantTokens(t, "a"+blank+"b", token(word, "a", 1, 1), token(word, "b", 1, 2+len(blank)))
		wantTokens(t, blank+"EUR"+blank+"1"+blank, token(code, "EUR", 1, 1+len(blank)), token(number, "1", 1, 4+2*len(blank)))
	}
	wantTokens(t, "a\nb", token(word, "a", 1, 1), token(word, "b", 2, 1))
	wantTokens(t, "a\r\n b", token(word, "a", 1, 1), token(word, "b", 2, 2))
	wantTokens(t, "\n\n  a b\n\t<=\n", token(word, "a", 3, 3), token(word, "b", 3, 5), token(mark, "<=", 4, 2))
}

// P12.1: a remark goes to the end of its line or of the text, whatever it has in
// it, and may stand right behind a token.
func TestCutRemarks(t *testing.T) {
	for _, b := range everyByte() {
		if b == "\n" {
			continue
		}
		for _, remark := range []string{"#" + b, "# x" + b + "!", "#" + b + "#", "#a;" + b} {
			wantTokens(t, remark)
			wantTokens(t, "a"+remark, token(word, "a", 1, 1))
			wantTokens(t, remark+"\nEUR"+remark+"\n1"+remark+"\n", token(code, "EUR", 2, 1), token(number, "1", 3, 1))
		}
	}
	for _, token1 := range append(marks(), "a", "a.b", "EUR", "7", "7.5", "2024-01-31") {
		wantTokens(t, token1+"#\n"+token1+"#x", token(plainKind(token1), token1, 1, 1), token(plainKind(token1), token1, 2, 1))
	}
	wantTokens(t, "# x\n# y\n\n a # z\n;", token(word, "a", 4, 2), token(mark, ";", 5, 1))
}

// P12.1: a remark ends at a byte 10, not at what ends lines elsewhere.
func TestCutRemarksAndOtherEnds(t *testing.T) {
	for _, other := range []string{"\r", "\v", "\f", "\x00", "\x1a", "\u0085", "\u2028", "\u2029"} {
		wantTokens(t, "#"+other+"!")
		wantTokens(t, "#"+other+"!\n;", token(mark, ";", 2, 1))
	}
}

// P12.1: words of one part and of several.
func TestCutWords(t *testing.T) {
	for _, s := range []string{"a", "z", "az", "a1", "a_", "a__", "a_1", "a9z0_", "vat", "food.bread", "a.b", "a.b.c", "a1.b2.c3", "a_.b_", "a.b.c.d.e.f.g.h.i.j.k", "e10", "x0.e5", "d", "abcdefghijklmnopqrstuvwxyz", "a0123456789", strings.Repeat("a", 25), strings.Repeat("a", 5000), "a" + strings.Repeat("_", 5000), strings.Repeat("b.", 2000) + "c"} {
		wantTokens(t, s, token(word, s, 1, 1))
		wantTokens(t, s+";"+s, token(word, s, 1, 1), token(mark, ";", 1, 1+len(s)), token(word, s, 1, 2+len(s)))
	}
	for _, s := range kept() {
		wantTokens(t, s, token(word, s, 1, 1))
		wantTokens(t, s+"."+s, token(word, s+"."+s, 1, 1))
	}
	for c := byte('a'); c <= 'z'; c++ {
		wantTokens(t, string(c), token(word, string(c), 1, 1))
		wantTokens(t, "a"+string(c)+"."+string(c), token(word, "a"+string(c)+"."+string(c), 1, 1))
	}
}

// P12.1: codes, each capital letter at each place.
func TestCutCodes(t *testing.T) {
	for _, s := range []string{"EUR", "AAA", "ZZZ", "AZA", "ZAZ", "USD", "JPY"} {
		wantTokens(t, s, token(code, s, 1, 1))
		wantTokens(t, "("+s+")"+s, token(mark, "(", 1, 1), token(code, s, 1, 2), token(mark, ")", 1, 5), token(code, s, 1, 6))
	}
	for c := byte('A'); c <= 'Z'; c++ {
		for _, s := range []string{string(c) + "XY", "X" + string(c) + "Y", "XY" + string(c)} {
			wantTokens(t, s, token(code, s, 1, 1))
		}
	}
}

// P12.1: numbers with and without a point, with noughts, of any length.
func TestCutNumbers(t *testing.T) {
	for _, s := range []string{"0", "1", "9", "00", "007", "1234567890", "7.5", "0.0", "00.00", "7.50", "123.456", "0.0000000001", "2024", "2024.01", "20240131", "12024", "99999999999999999999", strings.Repeat("7", 5000), strings.Repeat("7", 5000) + "." + strings.Repeat("0", 5000)} {
		wantTokens(t, s, token(number, s, 1, 1))
		wantTokens(t, s+"%"+s, token(number, s, 1, 1), token(mark, "%", 1, 1+len(s)), token(number, s, 1, 2+len(s)))
	}
}

// P12.1: dates have any digits, and are longer than the numbers with which they
// begin.
func TestCutDates(t *testing.T) {
	for _, s := range []string{"2024-01-31", "0000-00-00", "9999-99-99", "2023-02-30", "0001-13-32", "1234-56-78"} {
		wantTokens(t, s, token(date, s, 1, 1))
		wantTokens(t, s+","+s+"\n"+s, token(date, s, 1, 1), token(mark, ",", 1, 11), token(date, s, 1, 12), token(date, s, 2, 1))
	}
	for at := range len("2024-01-31") {
		for digit := byte('0'); digit <= '9'; digit++ {
			s := "2024-01-31"[:at] + string(digit) + "2024-01-31"[at+1:]
			if at != 4 && at != 7 {
				wantTokens(t, s, token(date, s, 1, 1))
			}
		}
	}
}

// P12.1: marks with nothing between them, the longer ones ahead of the shorter
// ones.
func TestCutMarks(t *testing.T) {
	for _, m := range marks() {
		wantTokens(t, m, token(mark, m, 1, 1))
		for _, n := range marks() {
			wantTokens(t, m+n, token(mark, m, 1, 1), token(mark, n, 1, 1+len(m)))
			wantTokens(t, m+n+m, token(mark, m, 1, 1), token(mark, n, 1, 1+len(m)), token(mark, m, 1, 1+len(m)+len(n)))
		}
	}
	wantTexts(t, "<<=", mark, "<", mark, "<=")
	wantTexts(t, "><=>=<>", mark, ">", mark, "<=", mark, ">=", mark, "<", mark, ">")
	wantWrong(t, "<==", 1, 3)
	wantWrong(t, ">==", 1, 3)
	wantWrong(t, "< =", 1, 3)
	wantWrong(t, "<#\n=", 2, 1)
	wantWrong(t, "=<", 1, 1)
	wantWrong(t, "=>", 1, 1)
}

// P12.1: what stands right behind a mark is no fault, and marks may stand right
// behind all else.
func TestCutNothingBetween(t *testing.T) {
	others := []string{"a", "a.b", "in", "EUR", "7", "7.5", "2024", "2024-01-31"}
	for _, m := range marks() {
		for _, a := range others {
			for _, b := range append(others, m) {
				wantTokens(t, a+m+b, token(plainKind(a), a, 1, 1), token(mark, m, 1, 1+len(a)), token(plainKind(b), b, 1, 1+len(a)+len(m)))
			}
			wantTokens(t, m+a, token(mark, m, 1, 1), token(plainKind(a), a, 1, 1+len(m)))
		}
	}
}

// P12.1: what MaxSource bytes may be, cut whole; a byte more is too long,
// whatever it is.
func TestCutLongest(t *testing.T) {
	const most = api.MaxSource
	of := func(s string, n int) string { return strings.Repeat(s, n/len(s)) }
	wantTokens(t, of(" ", most))
	wantTokens(t, of("\n", most))
	wantTokens(t, of("#", most))
	wantTokens(t, of("#\n", most))
	wantTokens(t, of(" ", most-1)+"a", token(word, "a", 1, most))
	wantTokens(t, of("\n", most-1)+"a", token(word, "a", most, 1))
	for _, s := range []string{of("a", most), of("a.", most-2) + "bc", of("1", most), of("1", most-3) + ".55", "1." + of("5", most-2), "a" + of("_", most-1)} {
		wantTokens(t, s, token(plainKind(s), s, 1, 1))
		wantTokens(t, s[:most-1]+";", token(plainKind(s[:most-1]), s[:most-1], 1, 1), token(mark, ";", 1, most))
	}
	for _, piece := range []string{";", "<=", "a ", "1\n", "EUR,", "2024-01-31)", "a;1%"} {
		want := []api.Token{}
		for n := range most / len(piece) {
			for _, x := range plainTokens(piece) {
				x.Col += n * len(piece)
				if strings.HasSuffix(piece, "\n") {
					x.Line, x.Col = n+1, 1
				}
				want = append(want, x)
			}
		}
		wantTokens(t, of(piece, most), want...)
	}
	tooLong := api.Spot{Err: api.ErrLong, Line: 1, Col: 1}
	for _, s := range append(everyByte(), "a ", "a.", "EUR;", "#\n", "\n\n;", "a\n!") {
		text := strings.Repeat(s, most/len(s)+1)[:most+1]
		wantSpot(t, text, tooLong)
		wantSpot(t, text+text+text, tooLong)
		wantSpot(t, of(" ", most)+text, tooLong)
	}
	wantSpot(t, of("a", 1<<24), tooLong)
}

// plainTokens are those of a short text that is not refused, without the end.
func plainTokens(src string) []api.Token {
	list, _ := plainCut(plainKinds{}, src)
	return list[:len(list)-1]
}

// P12.1: every text of up to four bytes, one byte of each sort, and of up to six
// out of a few.
func TestCutAllShortTexts(t *testing.T) {
	t.Parallel()
	k := plainKinds{}
	var all func(s string, bytes string, most int)
	all = func(s string, bytes string, most int) {
		wantPlain(t, k, s)
		for i := range len(bytes) {
			if len(s) < most {
				all(s+bytes[i:i+1], bytes, most)
			}
		}
	}
	all("", "azAZ09_.-<>=;#\n \r!\xc3", 4)
	all("", "aA1.;#\n ", 6)
	all("", "a1._", 8)
	all("2024", "-01.", 6)
	all("2024-", "-01x", 10)
	all("2024-01-3", "1-.a \n", 13)
}

// P12.1: every byte at every place of texts, in the place of the one there and
// ahead of it; and each byte left out.
func TestCutEveryByte(t *testing.T) {
	t.Parallel()
	k := plainKinds{}
	for _, text := range []string{"tax vat in de;", "food.bread<=7.50%", "EUR 2,USD", "2024-01-31 2024", "a\n# x\n(b)\r\n>=1", "\t7.5>EUR", "# EUR\na_1.b_2"} {
		for at := range len(text) + 1 {
			for _, b := range everyByte() {
				wantPlain(t, k, text[:at]+b)
				wantPlain(t, k, text[:at]+b+text[at:])
				wantPlain(t, k, text[:at]+b+text[min(at+1, len(text)):])
			}
			wantPlain(t, k, text[:at]+text[min(at+1, len(text)):])
		}
	}
}

// P12.1: texts put together of pieces without an order.
func TestCutMixedTexts(t *testing.T) {
	t.Parallel()
	pieces := append(marks(), " ", "\n", "\t", "\r\n", "# x\n", "#\n", "a", "vat", "food.bread", ".", "_", "EUR", "EU", "7", "7.5", "2024", "2024-01-31", "2024-01", "-", "=", "!", "é", "\xff", "\x00", " ", "\n", ";", " ")
	x := mixed(12)
	for range 6000 {
		src := ""
		for range x.below(12) {
			src += x.one(pieces)
		}
		wantPlain(t, plainKinds{}, src)
	}
	for range 6000 {
		bytes := make([]byte, x.below(12))
		for i := range bytes {
			bytes[i] = byte(x.next())
		}
		wantPlain(t, plainKinds{}, string(bytes))
	}
}
