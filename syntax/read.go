package syntax

import (
	"slices"
	"strings"

	"tollbook/api"
	"tollbook/calendar"
	"tollbook/decimal"
	"tollbook/tokens"
)

const point = "."

// reader is at the first token of a text that is not read; all ahead of it is
// the beginning of a rule book's text.
type reader struct {
	list []api.Token
	at   int
	// refused is where the text has no tokens any more, if there is such a
	// place: the list ends there then, the text does not.
	refused api.Spot
	// open is how many "not" and "(" are.
	open int
}

// stop is what the reading is left with by a panic.
type stop struct {
	spot api.Spot
}

// book reads the whole text; firsts are the first tokens of the declarations.
func (r *reader) book() (decls []api.Decl, firsts []api.Token, spot api.Spot) {
	defer func() {
		if left := recover(); left != nil {
			decls, firsts, spot = nil, nil, left.(stop).spot
		}
	}()
	words := kindsByWord()
	for first := r.now(); first.Kind != api.TokEnd; first = r.now() {
		k, ok := words[first.Text]
		if !ok {
			refuse(first, api.ErrSyntax)
		}
		r.at++
		d := api.Decl{Kind: k.kind}
		k.read(r, &d)
		r.must(endMark)
		decls, firsts = append(decls, d), append(firsts, first)
	}
	return decls, firsts, api.Spot{}
}

func refuse(t api.Token, err api.Errno) {
	panic(stop{spotAt(t, err)})
}

func spotAt(t api.Token, err api.Errno) api.Spot {
	return api.Spot{Err: err, Line: t.Line, Col: t.Col}
}

func readCurrency(r *reader, d *api.Decl) {
	d.Name = r.code()
	d.Digits = r.digit()
}

func readPlace(r *reader, d *api.Decl) {
	d.Name = r.name()
	d.In = r.option(inWord, r.name)
	d.Money = r.option(moneyWord, r.code)
}

func readTax(r *reader, d *api.Decl) {
	d.Name = r.name()
	r.must(inWord)
	d.In = r.name()
	r.must(roundWord)
	d.Policy = api.ByLine + api.Policy(r.choice(policyWords()))
	d.Mode = api.ModeFloor + api.Mode(r.choice(modeWords()))
	d.On = r.names(onWord)
	d.Instead = r.names(insteadWord)
}

func readRate(r *reader, d *api.Decl) {
	d.Name = r.name()
	d.Class = r.option(forWord, r.class)
	d.Span = r.span()
	d.Brackets = []api.Bracket{r.bracket()}
	for r.take(nextMark) {
		d.Brackets = append(d.Brackets, r.bracket())
	}
}

func readExempt(r *reader, d *api.Decl) {
	d.Name = r.name()
	d.Class = r.option(forWord, r.class)
	d.Span = r.span()
	if r.take(whenWord) {
		d.When = r.or()
	}
}

func readLeast(r *reader, d *api.Decl) {
	d.Name = r.name()
	d.Span = r.span()
	d.Least = r.number()
}

// option reads what stands behind a word that may be left out.
func (r *reader) option(word string, read func() string) string {
	if !r.take(word) {
		return ""
	}
	return read()
}

func (r *reader) names(word string) []string {
	if !r.take(word) {
		return nil
	}
	list := []string{r.name()}
	for r.take(nextMark) {
		list = append(list, r.name())
	}
	return list
}

func (r *reader) span() api.Span {
	s := api.Span{To: behind}
	if r.take(fromWord) {
		s.From = r.date()
	}
	if r.take(toWord) {
		s.To = r.date()
	}
	return s
}

func (r *reader) bracket() api.Bracket {
	b := api.Bracket{Percent: r.number()}
	r.must(percentMark)
	if r.take(aboveWord) {
		b.Above = r.number()
	}
	return b
}

func (r *reader) name() string  { return r.token(isName).Text }
func (r *reader) class() string { return r.token(isClass).Text }
func (r *reader) code() string  { return r.token(isCode).Text }
func (r *reader) digit() int    { return int(r.token(isDigit).Text[0] - '0') }

func (r *reader) number() api.Dec {
	t := r.token(isNumber)
	d, _, err := decimal.Parse(t.Text)
	if err != api.OK {
		refuse(t, err)
	}
	return d
}

func (r *reader) date() api.Date {
	t := r.token(isDate)
	d, err := calendar.Parse(t.Text)
	if err != api.OK {
		refuse(t, err)
	}
	return d
}

// now is the token that is to be read next. A place at which the text has no
// token is told when it is come to, not ahead of what is wrong on the way.
func (r *reader) now() api.Token {
	t := r.list[r.at]
	if t.Kind == api.TokEnd && r.refused.Err != api.OK {
		panic(stop{r.refused})
	}
	return t
}

func (r *reader) token(is func(t api.Token) bool) api.Token {
	t := r.now()
	if !is(t) {
		refuse(t, api.ErrSyntax)
	}
	r.at++
	return t
}

// take reads a word or a mark, if it stands there. Its text is enough to know it
// by: no token of another kind has such a one.
func (r *reader) take(text string) bool {
	if r.now().Text != text {
		return false
	}
	r.at++
	return true
}

func (r *reader) must(text string) {
	if !r.take(text) {
		refuse(r.now(), api.ErrSyntax)
	}
}

// choice is which of these stands there, from 0 on.
func (r *reader) choice(texts []string) int {
	isOne := func(t api.Token) bool { return slices.Contains(texts, t.Text) }
	return slices.Index(texts, r.token(isOne).Text)
}

func isName(t api.Token) bool {
	return isClass(t) && !strings.Contains(t.Text, point)
}

// isClass tells the kept words by tokens.Word, which takes neither them nor what
// has a point or is too long; of these no kept word is one.
func isClass(t api.Token) bool {
	isOther := len(t.Text) > api.MaxName || strings.Contains(t.Text, point)
	return t.Kind == api.TokWord && (isOther || tokens.Word(t.Text))
}

func isCode(t api.Token) bool   { return t.Kind == api.TokCode }
func isNumber(t api.Token) bool { return t.Kind == api.TokNumber }
func isDate(t api.Token) bool   { return t.Kind == api.TokDate }
func isDigit(t api.Token) bool  { return isNumber(t) && len(t.Text) == 1 }
