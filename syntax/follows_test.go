package syntax_test

import (
	"strings"
	"testing"

	"tollbook/api"
	"tollbook/syntax"
	"tollbook/tokens"
)

// P14.5, P7: what is printed is read as it was, and printed as it was again.
func TestThereAndBack(t *testing.T) {
	t.Parallel()
	x := mixed(145)
	for range 1200 {
		list := x.decls(8)
		text, fault := syntax.Print(list)
		if fault != (api.Fault{}) {
			t.Fatalf("Print(%v) is %v", list, fault)
		}
		again, spot := syntax.Parse(text)
		if spot != (api.Spot{}) || !syntax.Same(again, list) {
			t.Errorf("%q is read as %v, %v", text, again, spot)
		}
		if twice, _ := syntax.Print(again); twice != text {
			t.Errorf("%q is printed as %q the next time", text, twice)
		}
	}
}

// P14.5: texts with more than they need, other blanks and remarks, say the same
// declarations, which may be printed.
func TestNoisyTexts(t *testing.T) {
	t.Parallel()
	x := mixed(146)
	for range 1000 {
		list := x.decls(5)
		src := x.noisyText(list)
		got, spot := syntax.Parse(src)
		if spot != (api.Spot{}) || !slowSame(got, list) {
			t.Fatalf("Parse(%q) is %v, %v", src, got, spot)
		}
		if fault := syntax.Check(got); fault != (api.Fault{}) {
			t.Errorf("what %q says may not be: %v", src, fault)
		}
		text, fault := syntax.Print(got)
		if again, _ := syntax.Parse(text); !syntax.Same(again, got) || fault != (api.Fault{}) {
			t.Errorf("%q is printed as %q, %v", src, text, fault)
		}
	}
}

// P14.5: blanks and remarks put between the tokens of the book, all of them or
// one, change nothing.
func TestBlanksAndRemarks(t *testing.T) {
	want, _ := syntax.Parse(book)
	list, _ := tokens.Cut(book)
	for _, between := range []string{" ", "\t", "\r", "\n", "  ", "#\n", " # place x; !\n", "\r\n"} {
		all := between
		for at, x := range list {
			all += x.Text + between
			one := ""
			for i, y := range list {
				one += y.Text + " "
				if i == at {
					one += between
				}
			}
			if got, spot := syntax.Parse(one); !syntax.Same(got, want) || spot != (api.Spot{}) {
				t.Errorf("with %q at %d it is %v, %v", between, at, got, spot)
			}
		}
		wantRead(t, all, want...)
	}
}

// P14.5: no text that begins as one that is refused with ErrSyntax may be,
// whatever stands behind a blank; and what is ahead of the token may go on.
func TestRefusedAlike(t *testing.T) {
	t.Parallel()
	x := mixed(147)
	refused := 0
	for range 1200 {
		var texts []string
		for _, d := range append(x.decls(2), x.decl()) {
			texts = append(texts, x.noisy(d)...)
		}
		texts[x.below(len(texts))] = x.one(everyToken())
		src := strings.Join(texts, " ")
		_, spot := syntax.Parse(src)
		if spot.Err != api.ErrSyntax {
			continue
		}
		refused++
		list, _ := tokens.Cut(src)
		at := 0
		for list[at].Col != spot.Col {
			at++
		}
		begin := src[:spot.Col-1+len(list[at].Text)] + " "
		w := newWatcher()
		for _, token := range list[:at] {
			w.takes(token)
		}
		for _, rest := range []string{"", ";", "!", "place a;", x.one(everyToken()), x.noisyText(x.decls(2)), src, w.ways[0].rest()} {
			// The end is no token of a longer text.
			if list[at].Kind == api.TokEnd {
				break
			}
			if got, again := syntax.Parse(begin + rest); len(got) > 0 || again != spot {
				t.Errorf("Parse(%q) is %v, %v, not %v", begin+rest, got, again, spot)
			}
		}
		_, went := syntax.Parse(src[:spot.Col-1] + " " + w.ways[0].rest())
		if went.Err == api.ErrSyntax {
			t.Errorf("%q is refused too early, at %v", src, spot)
		}
	}
	if refused < 200 {
		t.Errorf("%d texts are refused", refused)
	}
}

// P7: every text is read, or refused at a place within it or at its end.
func TestReadOrRefused(t *testing.T) {
	t.Parallel()
	x := mixed(148)
	pieces := append(everyToken(), " ", "\n", " ", "\n", "#", "!", "\xff", "EU", "=", "-")
	for range 20000 {
		src := ""
		for range x.below(12) {
			src += x.one(pieces) + x.one([]string{"", " ", "\n"})
		}
		decls, spot := syntax.Parse(src)
		if spot == (api.Spot{}) {
			if fault := syntax.Check(decls); fault != (api.Fault{}) {
				t.Errorf("Parse(%q) may not be: %v", src, fault)
			}
			continue
		}
		lines := strings.Split(src, "\n")
		if len(decls) > 0 || spot.Err == api.OK || spot.Line < 1 || spot.Line > len(lines) || spot.Col < 1 || spot.Col > len(lines[spot.Line-1])+1 {
			t.Errorf("Parse(%q) is %v, %v", src, decls, spot)
		}
	}
}
