package rules_test

import (
	"testing"

	"tollbook/api"
	"tollbook/rules"
	"tollbook/syntax"
)

// R4: models that are nil, or that Of did not make, say nothing, and are told ahead of
// all else that is wrong.
func TestNoModel(t *testing.T) {
	refused, _ := rules.Of(decls(t, "place x;"))
	for _, m := range []*rules.Model{nil, {}, new(rules.Model), refused} {
		if len(m.Canon())+len(m.Places())+len(m.Taxes())+len(m.Order()) > 0 || m.Tree() != nil {
			t.Error("lists of no model")
		}
		for _, name := range []string{"", "vat", "ny", "EUR", "Oz"} {
			if c, ok := m.Currency(name); c != (api.Currency{}) || ok {
				t.Error(c, ok)
			}
			if c, ok := m.Money(name); c != (api.Currency{}) || ok {
				t.Error(c, ok)
			}
			if i, ok := m.Place(name); i != 0 || ok {
				t.Error(i, ok)
			}
			if d, ok := m.Tax(name); !syntax.Same([]api.Decl{d}, make([]api.Decl, 1)) || ok {
				t.Error(d, ok)
			}
			for _, d := range []api.Date{-1, 0, behind} {
				if l, ok := m.Least(name, d); l != (api.Dec{}) || ok {
					t.Error(l, ok)
				}
				for _, class := range []string{"", "food", "Food"} {
					if list, ok := m.Rate(name, class, d); len(list) > 0 || ok {
						t.Error(list, ok)
					}
					for _, f := range someFacts() {
						if yes, err := m.Exempt(name, class, d, f); yes || err != api.ErrNil {
							t.Error(yes, err)
						}
					}
				}
			}
		}
	}
}

// R4: a model of nothing is one.
func TestModelOfNothing(t *testing.T) {
	m := model(t, nil)
	if m.Tree() == nil {
		t.Error("no tree")
	}
	for _, class := range []string{"", "food"} {
		if _, err := m.Exempt("vat", class, -1, api.Facts{Digits: 9}); err != api.ErrName {
			t.Error(err)
		}
	}
}
