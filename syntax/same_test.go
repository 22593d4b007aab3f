package syntax_test

import (
	"reflect"
	"slices"
	"testing"

	"tollbook/api"
	"tollbook/syntax"
)

func wantSame(t *testing.T, want bool, a, b []api.Decl) {
	t.Helper()
	if syntax.Same(a, b) != want || syntax.Same(b, a) != want || slowSame(a, b) != want {
		t.Errorf("Same(%v, %v) is not %t", a, b, want)
	}
}

// touch changes one number or text in a value, each one in turn, and puts it
// back.
func touch(v reflect.Value, tell func()) {
	switch v.Kind() {
	case reflect.Struct:
		for i := range v.NumField() {
			touch(v.Field(i), tell)
		}
	case reflect.Slice:
		for i := range v.Len() {
			touch(v.Index(i), tell)
		}
		before := reflect.ValueOf(v.Interface())
		v.Set(reflect.Append(before, reflect.Zero(v.Type().Elem())))
		tell()
		if n := before.Len(); n > 0 {
			v.Set(before.Slice(0, n-1))
			tell()
			v.Set(before.Slice(1, n))
			tell()
		}
		v.Set(before)
	case reflect.String:
		before := v.String()
		for _, s := range []string{before + "a", before + "\x00", "A" + before} {
			v.SetString(s)
			tell()
		}
		v.SetString(before)
	default:
		before := v.Int()
		for _, n := range []int64{before + 1, before - 1, before + 1<<32, -before - 1} {
			v.SetInt(n)
			tell()
		}
		v.SetInt(before)
	}
}

func deepClone(list []api.Decl) []api.Decl {
	list = slices.Clone(list)
	for i, d := range list {
		list[i].On, list[i].Instead = slices.Clone(d.On), slices.Clone(d.Instead)
		list[i].Brackets, list[i].When = slices.Clone(d.Brackets), slices.Clone(d.When)
	}
	return list
}

// P14.4: each field, each element of a list and each number in one counts, of
// declarations that may be and of others.
func TestSameFields(t *testing.T) {
	full := api.Decl{Kind: 9, Name: "n", Digits: 1, In: "i", Money: "m", Policy: 1, Mode: 2, On: []string{"o", "p"}, Instead: []string{"q"}, Class: "c", Span: api.Span{From: 1, To: 2}, Brackets: []api.Bracket{{Above: number(1, 2), Percent: number(3, 4)}, {}}, When: []api.Node{{Kind: 1, Kids: 2, Name: "x", Op: 3, Value: number(4, 5)}, {}}, Least: number(6, 7)}
	times := 0
	for _, d := range append(plainDecls(), full, api.Decl{}) {
		list := []api.Decl{{Kind: 5}, d, full}
		other := deepClone(list)
		wantSame(t, true, list, other)
		touch(reflect.ValueOf(&other[1]).Elem(), func() {
			times++
			wantSame(t, false, list, other)
		})
		wantSame(t, true, list, other)
	}
	if times < 500 {
		t.Errorf("%d changes", times)
	}
}

// P14.4: how many there are, and their order; nil and empty lists are one.
func TestSameLists(t *testing.T) {
	all := plainDecls()
	wantSame(t, true, nil, nil)
	wantSame(t, true, nil, []api.Decl{})
	wantSame(t, false, nil, []api.Decl{{}})
	for n := range all {
		wantSame(t, true, all[:n], deepClone(all[:n]))
		wantSame(t, false, all[:n], all[:n+1])
		wantSame(t, n == len(all)-1, []api.Decl{all[n], all[len(all)-1]}, []api.Decl{all[len(all)-1], all[n]})
		wantSame(t, false, append(slices.Clone(all[:n]), api.Decl{}), all[:n])
	}
	wantSame(t, true, []api.Decl{{On: []string{}, Instead: []string{}, Brackets: []api.Bracket{}, When: []api.Node{}}}, []api.Decl{{}})
	wantSame(t, false, []api.Decl{{On: []string{"a"}}}, []api.Decl{{Instead: []string{"a"}}})
	wantSame(t, false, []api.Decl{{On: []string{""}}}, []api.Decl{{}})
	many := make([]api.Decl, 5000)
	wantSame(t, true, many, slices.Clone(many))
	wantSame(t, false, many, many[1:])
}
