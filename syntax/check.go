package syntax

import (
	"tollbook/api"
	"tollbook/decimal"
	"tollbook/tokens"
	"tollbook/traits"
)

const (
	maxDigits  = 4
	maxPercent = 100
)

// demand is something that has to be so of a declaration, and the error where it
// is not. Each one is asked only where those ahead of it hold: so fields that a
// kind has not are zero, and most need not ask for the kind.
type demand struct {
	err   api.Errno
	holds func(d api.Decl) bool
}

func demands() []demand {
	return []demand{
		{api.ErrSyntax, isBare},
		{api.ErrName, isNamed},
		{api.ErrLong, func(d api.Decl) bool { return len(d.On) <= api.MaxNames && len(d.Instead) <= api.MaxNames }},
		{api.ErrArg, isCounted},
		{api.ErrClass, isClassed},
		{api.ErrSpan, isTimed},
		{api.ErrSchedule, func(d api.Decl) bool { return d.Kind != api.DeclRate || isSchedule(d.Brackets) }},
		{api.ErrDecimal, func(d api.Decl) bool { return isFigure(d.Least) }},
		{api.ErrTree, func(d api.Decl) bool { return traits.Check(d.When) == api.OK }},
	}
}

func isBare(d api.Decl) bool {
	k, ok := kindOf(d.Kind)
	return ok && same(d, k.bare(d))
}

func isNamed(d api.Decl) bool {
	isItsName := tokens.Word
	if d.Kind == api.DeclCurrency {
		isItsName = tokens.Code
	}
	mayLack := d.Kind != api.DeclTax
	return isItsName(d.Name) &&
		(mayLack && d.In == "" || tokens.Word(d.In)) &&
		(d.Money == "" || tokens.Code(d.Money)) &&
		areWords(d.On) && areWords(d.Instead)
}

func areWords(list []string) bool {
	for _, s := range list {
		if !tokens.Word(s) {
			return false
		}
	}
	return true
}

func isCounted(d api.Decl) bool {
	if d.Digits < 0 || d.Digits > maxDigits {
		return false
	}
	return d.Kind != api.DeclTax ||
		api.ByLine <= d.Policy && d.Policy <= api.ByInvoice &&
			api.ModeFloor <= d.Mode && d.Mode <= api.ModeEven
}

func isClassed(d api.Decl) bool {
	if d.Class == "" {
		return true
	}
	_, err := traits.Class(d.Class)
	return err == api.OK
}

func isTimed(d api.Decl) bool {
	switch d.Kind {
	case api.DeclRate, api.DeclExempt, api.DeclLeast:
		return 0 <= d.Span.From && d.Span.From < d.Span.To && d.Span.To <= behind
	}
	return true
}

func isSchedule(list []api.Bracket) bool {
	if len(list) == 0 || len(list) > api.MaxBrackets || list[0].Above != (api.Dec{}) {
		return false
	}
	for i, b := range list {
		if !isFigure(b.Above) || !isFigure(b.Percent) || isBelow(api.Dec{Units: maxPercent}, b.Percent) {
			return false
		}
		if i > 0 && !isBelow(list[i-1].Above, b.Above) {
			return false
		}
	}
	return true
}

func isFigure(d api.Dec) bool {
	return decimal.Check(d) == api.OK && d.Units >= 0
}

// isBelow is for decimals that may be.
func isBelow(a, b api.Dec) bool {
	order, _ := decimal.Compare(a, b)
	return order < 0
}
