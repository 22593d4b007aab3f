package tokens_test

import (
	"strings"
	"testing"

	"tollbook/api"
	"tollbook/tokens"
)

// P12.1: the chapter's examples.
func TestWrongExamples(t *testing.T) {
	wantWrong(t, "x!", 1, 2)
	wantWrong(t, "<==", 1, 3)
	for _, s := range []string{"EURO", "EUR1", "EU", "EURx", "EUR.x", "food.", "food..x", "food.1", "foodEUR", "7.", "7.x", "7x", "2024-01-311", "2024-01-31x", "_a"} {
		wantWrong(t, s, 1, 1)
	}
	wantWrong(t, "2024-01", 1, 5)
	wantWrong(t, "\né", 2, 1)
	wantWrong(t, "a B", 1, 3)
	wantSpot(t, strings.Repeat(" ", 65537), api.Spot{Err: api.ErrLong, Line: 1, Col: 1})
}

// begins is whether a token, a blank or a remark begins with the byte, whatever
// comes behind it; capital letters need two more.
func begins(b string) bool {
	return strings.Contains("abcdefghijklmnopqrstuvwxyz0123456789;,()%<># \t\n\r", b)
}

// P12.1: every byte at which no token begins, alone, at the end, at the
// beginning, in the midst, and on later lines.
func TestWrongBytes(t *testing.T) {
	none := 0
	for _, b := range everyByte() {
		if begins(b) {
			if list, spot := tokens.Cut(b); len(list) == 0 || spot != (api.Spot{}) {
				t.Errorf("Cut(%q) is %v, %v", b, list, spot)
			}
			continue
		}
		none++
		wantWrong(t, b, 1, 1)
		wantWrong(t, b+" a", 1, 1)
		wantWrong(t, b+b, 1, 1)
		wantWrong(t, " "+b, 1, 2)
		wantWrong(t, "a "+b, 1, 3)
		wantWrong(t, ";"+b+";", 1, 2)
		wantWrong(t, "a;\n"+b, 2, 1)
		wantWrong(t, "# x\n\n\t<="+b+"\n"+b, 3, 4)
	}
	if none != 256-48 {
		t.Errorf("%d bytes begin no token", none)
	}
}

// P12.1: each kind of token but marks with each byte right behind it: a letter,
// a digit, a _ or a point that does not make it longer is refused at the token's
// place, what begins nothing at its own.
func TestWrongRightBehind(t *testing.T) {
	for _, text := range []string{"a", "vat", "a_1", "food.bread", "EUR", "7", "7.5", "2024", "2024-01-31"} {
		for _, b := range everyByte() {
			longer := plainKind(text + b)
			for _, ahead := range []string{"", "; ", "\n (", "# x\n"} {
				src := ahead + text + b
				line, col := plainPlace(src, len(ahead))
				switch list, spot := tokens.Cut(src); {
				case longer != 0:
					if spot != (api.Spot{}) || list[len(list)-2] != token(longer, text+b, line, col) {
						t.Errorf("Cut(%q) is %v, %v", src, list, spot)
					}
				case strings.Contains(clings, b):
					wantWrong(t, src, line, col)
					wantWrong(t, src+" a", line, col)
					wantWrong(t, src+"!", line, col)
				case begins(b):
					if spot != (api.Spot{}) {
						t.Errorf("Cut(%q) is %v, %v", src, list, spot)
					}
				default:
					wantWrong(t, src, line, col+len(text))
				}
			}
		}
	}
}

// P12.1: the same by kinds, told one by one.
func TestWrongEnds(t *testing.T) {
	for _, s := range []string{
		"aA", "a.bA", "aZ", "vatEUR", "a.", "a.b.", "a..", "a.A", "a.EUR", "a.0", "a._", "a.b.9", "a. b", "a.;", "a.#", "a..b", "a.b..c",
		"EURO", "EURa", "EURz", "EUR0", "EUR9", "EUR_", "EUR.", "EUR.EUR", "EUREUR", "EURUSDX", "EUR2024-01-31",
		"7a", "7z", "7A", "7EUR", "7_", "7_000", "7.", "7..", "7..5", "7.a", "7.A", "7._", "7. 5", "7.;", "7.5a", "7.5A", "7.5_", "7.5.", "7.5.1", "7.5..", "1e5", "0x1", "2024a", "2024.x",
		"2024-01-310", "2024-01-319", "2024-01-31a", "2024-01-31A", "2024-01-31_", "2024-01-31.", "2024-01-31.5", "2024-01-312024-01-31", "2024-01-31T00",
	} {
		wantWrong(t, s, 1, 1)
		wantWrong(t, "in "+s, 1, 4)
		wantWrong(t, "in\n\n  "+s+" in", 3, 3)
		wantWrong(t, "#"+s+"\n<"+s+"\n", 2, 2)
	}
}

// P12.1: codes that are too short, or begin otherwise further on.
func TestWrongCodes(t *testing.T) {
	for _, s := range []string{"E", "EU", "E R", "EU R", "E1R", "EU1", "E_R", "EU_", "E.R", "EU.", "Eur", "EUr", "EuR", "Ea", "E;", "EU;", "E\n", "EU\nR", "E#", "EU#", "E-", "EU\xc3", "É", "EÉ", "EUÉ", "AZ[", "AZ@", "A@Z", "A[Z", "AZ`", "AZ\x00"} {
		wantWrong(t, s, 1, 1)
		wantWrong(t, "\n "+s, 2, 2)
		wantWrong(t, "EUR "+s, 1, 5)
	}
}

// P12.1: dates that are cut off are numbers and what begins nothing; digits
// ahead of four make them so, too.
func TestWrongDates(t *testing.T) {
	for at := 5; at < len("2024-01-31"); at++ {
		for _, behind := range []string{"", " ", ";", "\n", "x", "-", "#"} {
			wantWrong(t, "2024-01-31"[:at]+behind, 1, 5)
			wantWrong(t, "a\n;"+"2024-01-31"[:at]+behind, 2, 6)
		}
	}
	for _, c := range []struct {
		src string
		col int
	}{
		{"1-01-31", 2}, {"24-01-31", 3}, {"024-01-31", 4}, {"02024-01-31", 6}, {"12024-01-31", 6}, {"2024-1-31", 5}, {"2024-001-31", 5}, {"2024-01-1", 5}, {"2024--01-31", 5}, {"2024-01--31", 5}, {"2024-01-3x", 5}, {"2024-0x-31", 5}, {"2024-x1-31", 5}, {"2024 -01-31", 6}, {"2024- 01-31", 5}, {"2024-01 -31", 5}, {"2024-01- 31", 5},
		{"2024.01-31", 8}, {"2024.5-01-31", 7}, {"2024-01.31", 5}, {"2024/01/31", 5}, {"2024-01/31", 5}, {"202x-01-31", 1}, {"x024-01-31", 5}, {"2024_01_31", 1}, {"-2024-01-31", 1}, {"2024-01-31-", 11}, {"2024-01-31-01", 11}, {"2024\u201101\u201131", 5}, {"2024-01-\n31", 5}, {"2024-01-3\n1", 5},
	} {
		wantWrong(t, c.src, 1, c.col)
	}
}

// P12.1: bytes are what counts: runes that are letters, digits, blanks or marks
// elsewhere, and texts that are no UTF-8, are refused at their first byte.
func TestWrongRunes(t *testing.T) {
	for _, s := range []string{"é", "É", "ß", "\u017f", "\u212a", "\u0131", "\u0660", "\uff11", "\uff41", "\uff21", "\u00a0", "\u2009", "\u3000", "\u0085", "\u2028", "\uff1b", "\uff0c", "\u2264", "\u2265", "\u2013", "\ufeff", "\u200b", "\ufffd", "\U0001d41a", "\xff", "\xc3", "\x80", "\xe1", "\xb0", "\xc1\xa1", "\xc0\xb1", "\xc0\xa0", "\xc0\x8a", "\xed\xa0\x80"} {
		wantWrong(t, s, 1, 1)
		wantWrong(t, "a"+s, 1, 2)
		wantWrong(t, "a.b"+s, 1, 4)
		wantWrong(t, "EUR"+s, 1, 4)
		wantWrong(t, "7.5"+s, 1, 4)
		wantWrong(t, "2024-01-31"+s, 1, 11)
		wantWrong(t, "<"+s+"=", 1, 2)
		wantWrong(t, "# "+s+"\n "+s+"\n", 2, 2)
		wantWrong(t, "7."+s, 1, 1)
		wantWrong(t, "a."+s, 1, 1)
		wantWrong(t, "EU"+s, 1, 1)
	}
}

// P12.1: the first thing that is wrong is told, not a later one; nothing that is
// wrong in a remark is.
func TestWrongFirst(t *testing.T) {
	wantWrong(t, "! 7x", 1, 1)
	wantWrong(t, "7x !", 1, 1)
	wantWrong(t, "a 7x ! EU", 1, 3)
	wantWrong(t, "a ! 7x", 1, 3)
	wantWrong(t, "# !\n# 7x\na EU !\n7x", 3, 3)
	wantWrong(t, "a!b?c", 1, 2)
	wantWrong(t, "a.\nb", 1, 1)
	wantWrong(t, "7.\n5", 1, 1)
	wantWrong(t, "7.x!", 1, 1)
	wantWrong(t, "2024-01-3x!", 1, 5)
	wantWrong(t, strings.Repeat("a ", 30000)+"=\n!", 1, 60001)
	wantWrong(t, strings.Repeat("a\n", 30000)+"\t=\n!", 30001, 2)
	wantWrong(t, strings.Repeat(" ", api.MaxSource-1)+"=", 1, api.MaxSource)
	wantWrong(t, strings.Repeat("\n", api.MaxSource-1)+"=", api.MaxSource, 1)
	wantWrong(t, strings.Repeat("a", api.MaxSource-1)+"A", 1, 1)
	wantWrong(t, strings.Repeat("a.", api.MaxSource/2), 1, 1)
	wantWrong(t, strings.Repeat("1.", api.MaxSource/2), 1, 1)
	wantWrong(t, strings.Repeat("1", api.MaxSource-1)+".", 1, 1)
	wantWrong(t, strings.Repeat("E", api.MaxSource), 1, 1)
	wantWrong(t, strings.Repeat("-", api.MaxSource), 1, 1)
}

// P12.1: a text that is both too long and wrong is too long.
func TestTooLongAheadOfWrong(t *testing.T) {
	for _, s := range []string{"!", "\n\n!", "EU", "a;\n7x"} {
		wantWrong(t, s, 1+strings.Count(s, "\n"), 1)
		wantSpot(t, s+strings.Repeat(" ", api.MaxSource+1-len(s)), api.Spot{Err: api.ErrLong, Line: 1, Col: 1})
	}
}
