package syntax_test

// What the tests hold the reading against, the first half: the chapter's grammar
// as data, gone through with all ways to go on at one time, and nothing of the
// package in it.

import (
	"slices"
	"strings"
	"testing"

	"tollbook/api"
	"tollbook/tokens"
)

var kept = strings.Fields("currency place tax rate exempt least in money round line invoice on instead for from to when or and not buyer amount quantity above floor ceil up down even")

func keptWords() []string { return slices.Clone(kept) }

// item is a piece of the grammar.
type item struct {
	is func(t api.Token) bool // a token; nil otherwise
	// sample is a text that is such a token.
	sample string
	// opens is of a "not" and a "(", closes is where what was opened last ends.
	opens, closes bool
	seq           []*item
	alt           []*item // the first one is the shortest
	again         *item   // any number of these, none too
}

func text(s string) *item {
	return &item{is: func(t api.Token) bool { return t.Kind != api.TokEnd && t.Text == s }, sample: s}
}

func seq(items ...*item) *item { return &item{seq: items} }
func alt(items ...*item) *item { return &item{alt: items} }
func rep(items ...*item) *item { return &item{again: seq(items...)} }
func opt(items ...*item) *item { return alt(seq(), seq(items...)) }

func opening(s string) *item {
	i := text(s)
	i.opens = true
	return i
}

// words are those of a line, taken as they stand.
func words(line string) []*item {
	var all []*item
	for _, s := range strings.Fields(line) {
		all = append(all, text(s))
	}
	return all
}

func isKept(t api.Token) bool { return slices.Contains(kept, t.Text) }

func grammar() *item {
	name := &item{sample: "x", is: func(t api.Token) bool {
		return t.Kind == api.TokWord && !strings.Contains(t.Text, ".") && !isKept(t)
	}}
	class := &item{sample: "x.y", is: func(t api.Token) bool { return t.Kind == api.TokWord && !isKept(t) }}
	code := &item{sample: "XYZ", is: func(t api.Token) bool { return t.Kind == api.TokCode }}
	number := &item{sample: "1.5", is: func(t api.Token) bool { return t.Kind == api.TokNumber }}
	digit := &item{sample: "3", is: func(t api.Token) bool { return t.Kind == api.TokNumber && len(t.Text) == 1 }}
	date := &item{sample: "2024-02-29", is: func(t api.Token) bool { return t.Kind == api.TokDate }}
	end := &item{is: func(t api.Token) bool { return t.Kind == api.TokEnd }}
	closing := &item{closes: true}

	or, not := &item{}, &item{}
	op := alt(words("< <= > >=")...)
	not.alt = []*item{
		seq(text("buyer"), name),
		seq(text("line"), name),
		seq(text("amount"), op, number),
		seq(text("quantity"), op, number),
		seq(opening("not"), not, closing),
		seq(opening("("), or, text(")"), closing),
	}
	and := seq(not, rep(text("and"), not))
	or.seq = []*item{and, rep(text("or"), and)}

	names := seq(name, rep(text(","), name))
	bracket := seq(number, text("%"), opt(text("above"), number))
	when := seq(opt(text("for"), class), opt(text("from"), date), opt(text("to"), date))
	span := seq(opt(text("from"), date), opt(text("to"), date))
	mode := alt(words("floor ceil up down even")...)
	decl := alt(
		seq(text("currency"), code, digit, text(";")),
		seq(text("place"), name, opt(text("in"), name), opt(text("money"), code), text(";")),
		seq(text("tax"), name, text("in"), name, text("round"), alt(words("line invoice")...), mode, opt(text("on"), names), opt(text("instead"), names), text(";")),
		seq(text("rate"), name, when, bracket, rep(text(","), bracket), text(";")),
		seq(text("exempt"), name, when, opt(text("when"), or), text(";")),
		seq(text("least"), name, span, number, text(";")),
	)
	return seq(rep(decl), end)
}

// todo is what is still to come: an item, and what comes behind it.
type todo struct {
	first *item
	rest  *todo
}

// way is one way to go on.
type way struct {
	left *todo
	open int
}

// over tells the ways that are left behind a token.
func (w way) over(t api.Token, tell func(w way)) {
	if w.left == nil {
		return
	}
	i, rest := w.left.first, w.left.rest
	switch {
	case i.closes:
		way{rest, w.open - 1}.over(t, tell)
	case i.is != nil && i.opens:
		if i.is(t) && w.open < 16 {
			tell(way{rest, w.open + 1})
		}
	case i.is != nil:
		if i.is(t) {
			tell(way{rest, w.open})
		}
	case i.alt != nil:
		for _, one := range i.alt {
			way{&todo{one, rest}, w.open}.over(t, tell)
		}
	case i.again != nil:
		way{rest, w.open}.over(t, tell)
		way{&todo{i.again, w.left}, w.open}.over(t, tell)
	default:
		for _, one := range slices.Backward(i.seq) {
			rest = &todo{one, rest}
		}
		way{rest, w.open}.over(t, tell)
	}
}

// shortest is what may stand there for the item.
func (i *item) shortest() string {
	switch {
	case i.is != nil:
		return i.sample
	case i.alt != nil:
		return i.alt[0].shortest()
	}
	all := ""
	for _, one := range i.seq {
		all += " " + one.shortest()
	}
	return all
}

// rest is a text with which what was gone through is a rule book's.
func (w way) rest() string {
	all := ""
	for at := w.left; at != nil; at = at.rest {
		all += " " + at.first.shortest()
	}
	return all
}

// watcher goes through tokens one by one.
type watcher struct {
	ways []way
}

var wholeGrammar = grammar()

func newWatcher() *watcher {
	return &watcher{[]way{{&todo{wholeGrammar, nil}, 0}}}
}

// takes goes over a token, if it can stand there.
func (w *watcher) takes(t api.Token) bool {
	var next []way
	for _, one := range w.ways {
		one.over(t, func(w way) { next = append(next, w) })
	}
	if len(next) == 0 {
		return false
	}
	w.ways = next
	return true
}

// tokensAhead are those that a text has, and whether they are all of it: the end
// among them then.
func tokensAhead(t *testing.T, src string) ([]api.Token, api.Spot) {
	t.Helper()
	list, refused := tokens.Cut(src)
	if refused.Err == api.OK {
		return list, refused
	}
	lines := strings.SplitAfter(src, "\n")
	kept := strings.Join(lines[:refused.Line-1], "") + lines[refused.Line-1][:refused.Col-1]
	list, spot := tokens.Cut(kept)
	if spot.Err != api.OK {
		t.Fatalf("%q has no tokens: %v", kept, spot)
	}
	return list[:len(list)-1], refused
}

// watch is the first thing in the way of the tokens of a text.
func watch(t *testing.T, src string) api.Spot {
	t.Helper()
	list, refused := tokensAhead(t, src)
	w := newWatcher()
	for _, x := range list {
		spot := api.Spot{Line: x.Line, Col: x.Col}
		switch {
		case !w.takes(x):
			spot.Err = api.ErrSyntax
		case x.Kind == api.TokNumber && !isThere(x.Text):
			spot.Err = api.ErrOver
		case x.Kind == api.TokDate && !isDay(x.Text):
			spot.Err = api.ErrDate
		}
		if spot.Err != api.OK {
			return spot
		}
	}
	return refused
}

// The grammar as data is itself held against the chapter's examples.
func TestGrammar(t *testing.T) {
	for _, src := range []string{"", ";", "vat", "currency EUR 2;", "currency EUR 2; ;", "place a in b money EUR;", "place a money EUR in b;", "least a 1 !", "exempt a when not not (buyer b);", "exempt a when )"} {
		list, refused := tokensAhead(t, src)
		w := newWatcher()
		n := 0
		for n < len(list) && w.takes(list[n]) {
			n++
		}
		want := map[string]int{"": 1, ";": 0, "vat": 0, "currency EUR 2;": 5, "currency EUR 2; ;": 4, "place a in b money EUR;": 8, "place a money EUR in b;": 4, "least a 1 !": 3, "exempt a when not not (buyer b);": 11, "exempt a when )": 3}[src]
		if n != want || (refused.Err == api.ErrToken) != strings.Contains(src, "!") {
			t.Errorf("%q goes on for %d tokens, refused %v", src, n, refused)
		}
	}
	w := newWatcher()
	for n := range 20 {
		for _, s := range []string{"exempt", "a", "when"} {
			if n == 0 && !w.takes(api.Token{Kind: api.TokWord, Text: s}) {
				t.Error(s)
			}
		}
		x := api.Token{Kind: api.TokMark, Text: "("}
		if n%2 == 0 {
			x = api.Token{Kind: api.TokWord, Text: "not"}
		}
		if w.takes(x) != (n < 16) {
			t.Errorf("the grammar's way with number %d that is open", n+1)
		}
	}
	if got := strings.Join(strings.Fields(w.ways[0].rest()), " "); got != "buyer x ) ) ) ) ) ) ) ) ;" {
		t.Errorf("the rest is %q", got)
	}
}
