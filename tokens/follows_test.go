package tokens_test

import (
	"slices"
	"strings"
	"testing"

	"tollbook/api"
	"tollbook/tokens"
)

const book = `currency EUR 2;
currency JPY 0;   # no cents
place berlin in de;
place eu money EUR;

tax city in berlin round line even on vat;
rate city 2%, 5% above 100;
	rate vat for food from 2020-01-01 to 2024-01-01 7.5%;
exempt vat for food when not (buyer school or amount>=12.50)and quantity<3;` + "\r\n" + `least city 1000;
# the end`

// someTexts are cut or refused, for all that follows of the one or the other.
func someTexts() []string {
	list := []string{"", " ", "\n", "#", "#\n", book, book + "\n", book + ";", "a", "a\n", "1.5%\n#", "<=\n>=", "a.b\nEUR\n2024-01-31\n2024\n7.5\n;"}
	for at := range len(book) {
		list = append(list, book[:at], book[at:], book[:at]+"!"+book[at:], book[:at]+book[at+1:])
	}
	x := mixed(34)
	pieces := append(marks(), " ", " ", " ", "\n", "\n", "\t", "\r\n", "# x\n", "a", "a ", "vat", "food.bread", "EUR", "EU", "7", "7.5", "2024 ", "2024-01-31", "-", "=", ".")
	for range 3000 {
		src := ""
		for range x.below(14) {
			src += x.one(pieces)
		}
		list = append(list, src)
	}
	return list
}

// P12.3: each text stands at its place, and nothing but blanks and remarks
// between; a text is cut or refused, one of the two.
func TestAllThere(t *testing.T) {
	cut, refused := 0, 0
	for _, src := range someTexts() {
		list, spot := tokens.Cut(src)
		if spot == (api.Spot{}) {
			wantAllThere(t, src, list)
			cut++
		} else if len(list) > 0 || spot.Err != api.ErrToken {
			t.Errorf("Cut(%q) is %v, %v", short(src), list, spot)
		} else {
			refused++
		}
	}
	if cut < 1000 || refused < 1000 {
		t.Errorf("%d texts are cut, %d refused", cut, refused)
	}
}

// bare are tokens without their places.
func bare(list []api.Token) []api.Token {
	list = slices.Clone(list)
	for i := range list {
		list[i].Line, list[i].Col = 0, 0
	}
	return list
}

// P12.3: the texts with a blank between each two are cut into the same kinds and
// texts, whichever blank or remark it is, and however many.
func TestBlanksBetween(t *testing.T) {
	for _, src := range someTexts() {
		list, spot := tokens.Cut(src)
		if spot != (api.Spot{}) {
			continue
		}
		texts := []string{}
		for _, x := range list[:len(list)-1] {
			texts = append(texts, x.Text)
		}
		for _, between := range []string{" ", "\t", "\r", "\n", " \r\n\t", "#\n", " # x;!\n\n"} {
			again, spot := tokens.Cut(strings.Join(texts, between))
			if !slices.Equal(bare(again), bare(list)) || spot != (api.Spot{}) {
				t.Errorf("%q with %q between is %v, %v", short(src), between, again, spot)
			}
		}
	}
}

// P12.3: a line with a remark ahead puts all places one line down, those of what
// is refused too.
func TestRemarkAhead(t *testing.T) {
	for _, src := range someTexts() {
		list, spot := tokens.Cut(src)
		for _, remark := range []string{"#\n", "# x\n", " \t# a ! 7x\xff #\n"} {
			want, wantSpot := slices.Clone(list), spot
			for i := range want {
				want[i].Line++
			}
			if spot.Err != api.OK {
				wantSpot.Line++
			}
			if again, spot := tokens.Cut(remark + src); !slices.Equal(again, want) || spot != wantSpot {
				t.Errorf("%q ahead of %q: %v, %v", remark, short(src), again, spot)
			}
		}
	}
}

// P12.3: a text that is refused is refused alike, whatever stands behind the
// line of its place.
func TestRefusedAlike(t *testing.T) {
	behind := []string{"", "a", "!", ";\n", "\n\n", "7x\n=", "# x", "R", "\xff", book}
	for _, src := range someTexts() {
		_, want := tokens.Cut(src)
		if want.Err == api.OK {
			continue
		}
		lines := strings.SplitAfter(src, "\n")
		kept := strings.Join(lines[:want.Line], "")
		for _, more := range behind {
			wantSpot(t, strings.TrimSuffix(kept, "\n")+"\n"+more, want)
			wantSpot(t, strings.TrimSuffix(kept, "\n")+"\n"+more+strings.Join(lines[want.Line:], ""), want)
		}
	}
}

// P12.3: these hold as long as the text is not too long.
func TestFollowsAtTheLimit(t *testing.T) {
	most := strings.Repeat("a;", api.MaxSource/2)
	if list, spot := tokens.Cut(most); len(list) != api.MaxSource+1 || spot != (api.Spot{}) {
		t.Errorf("%d tokens, %v", len(list), spot)
	}
	tooLong := api.Spot{Err: api.ErrLong, Line: 1, Col: 1}
	wantSpot(t, "#\n"+most, tooLong)
	wantSpot(t, strings.ReplaceAll(most, ";", "; "), tooLong)
	wantSpot(t, "#\n"+most[2:]+" ", tooLong)
	if list, spot := tokens.Cut("#\n" + most[2:]); len(list) != api.MaxSource-1 || list[0] != token(word, "a", 2, 1) || spot != (api.Spot{}) {
		t.Errorf("%d tokens, %v", len(list), spot)
	}
	wantWrong(t, "!\n"+most[2:], 1, 1)
	wantSpot(t, "!\n"+most, tooLong)
}
