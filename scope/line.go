package scope

import (
	"cmp"
	"slices"

	"tollbook/api"
	"tollbook/decimal"
	"tollbook/juris"
	"tollbook/money"
	"tollbook/rat"
	"tollbook/rules"
	"tollbook/traits"
)

// line is a question that may be asked of a model, with what the model says of its
// words.
type line struct {
	model    *rules.Model
	tree     *juris.Tree
	ask      api.Ask
	place    int
	currency api.Currency
}

// known is what is known of a candidate.
type known struct {
	tax      api.Decl
	money    api.Currency
	brackets []api.Bracket
}

// lineOf looks at a question.
func lineOf(m *rules.Model, q api.Ask) (line, api.Errno) {
	tree := m.Tree()
	place, isPlace := m.Place(q.Place)
	_, errClass := traits.Class(q.Class)
	currency, isCurrency := m.Currency(q.Currency)
	switch {
	case tree == nil:
		return line{}, api.ErrNil
	case !isPlace:
		return line{}, api.ErrPlace
	case q.Date < 0 || q.Date > api.MaxDate:
		return line{}, api.ErrDate
	case errClass != api.OK:
		return line{}, api.ErrClass
	case !isCurrency:
		return line{}, api.ErrCurrency
	case traits.Fit(api.Facts{Buyer: q.Buyer, Line: q.Traits}) != api.OK:
		return line{}, api.ErrTrait
	case q.Amount < 0 || q.Quantity < 1 || q.Quantity > api.MaxQuantity || !doRise(q.Sales):
		return line{}, api.ErrArg
	}
	return line{model: m, tree: tree, ask: q, place: place, currency: currency}, api.OK
}

func doRise(sales []api.Sale) bool {
	for i := 1; i < len(sales); i++ {
		if compareSales(sales[i-1], sales[i]) >= 0 {
			return false
		}
	}
	return true
}

func compareSales(a, b api.Sale) int {
	return cmp.Or(cmp.Compare(a.Place, b.Place), cmp.Compare(a.Money, b.Money))
}

// taxes are those that apply, in the model's order.
func (l line) taxes() ([]known, api.Errno) {
	order := l.model.Order()
	candidates := map[string]known{}
	var shadowed []string
	for _, name := range order {
		if k, is := l.candidate(name); is {
			candidates[name] = k
			shadowed = append(shadowed, k.tax.Instead...)
		}
	}
	// None is taken out ahead of the last one's being found: one that is shadowed
	// shadows others all the same.
	for _, name := range shadowed {
		delete(candidates, name)
	}
	var list []known
	brackets := 0
	for _, name := range order {
		if k, is := candidates[name]; is {
			list = append(list, k)
			brackets += len(k.brackets)
		}
	}
	if len(list) > api.MaxTaxes || brackets > api.MaxPieces {
		return nil, api.ErrLong
	}
	return list, api.OK
}

// candidate is what is known of a tax, and whether it is one.
func (l line) candidate(name string) (known, bool) {
	tax, _ := l.model.Tax(name)
	in, _ := l.model.Place(tax.In)
	if !l.tree.Within(l.place, in) {
		return known{}, false
	}
	brackets, isRated := l.model.Rate(name, l.ask.Class, l.ask.Date)
	c, _ := l.model.Money(tax.In)
	if !isRated || l.isExempt(name) || !l.isEnough(tax, c) {
		return known{}, false
	}
	return known{tax: tax, money: c, brackets: brackets}, true
}

func (l line) isExempt(name string) bool {
	yes, _ := l.model.Exempt(name, l.ask.Class, l.ask.Date, l.facts())
	return yes
}

func (l line) facts() api.Facts {
	return api.Facts{Buyer: l.ask.Buyer, Line: l.ask.Traits, Amount: l.ask.Amount, Digits: l.currency.Digits, Quantity: l.ask.Quantity}
}

// isEnough asks whether so much was sold where the tax is that it is due.
func (l line) isEnough(tax api.Decl, c api.Currency) bool {
	least, isThere := l.model.Least(tax.Name, l.ask.Date)
	if !isThere {
		return true
	}
	from, _ := decimal.Rat(least)
	sold, _ := money.Major(c, l.sold(tax.In, c.Name))
	return rat.Compare(sold, from) >= 0
}

// sold is how many units were sold in a place in a money.
func (l line) sold(place, code string) int64 {
	at, is := slices.BinarySearchFunc(l.ask.Sales, api.Sale{Place: place, Money: code}, compareSales)
	if !is {
		return 0
	}
	return l.ask.Sales[at].Units
}
