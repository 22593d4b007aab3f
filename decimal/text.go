package decimal

import (
	"strings"

	"tollbook/api"
	"tollbook/nat"
	"tollbook/numeral"
	"tollbook/rat"
	"tollbook/whole"
)

const (
	minus  = "-"
	point  = "."
	nought = "0"
	digits = "0123456789"
	// most is how many digits the greatest Units have.
	most = 19
)

func Parse(s string) (api.Dec, int, api.Errno) {
	bare, below := strings.CutPrefix(s, minus)
	ahead, behind, at, ok := parts(bare)
	if !ok {
		return api.Dec{}, len(s) - len(bare) + at, api.ErrDecimal
	}
	d, err := worth(below, strings.TrimLeft(ahead, nought), strings.TrimRight(behind, nought))
	return d, 0, err
}

func Text(d api.Dec) (string, api.Errno) {
	if err := Check(d); err != api.OK {
		return "", err
	}
	return written(d.Units < 0, whole.Small(d.Units).Abs(), d.Places), api.OK
}

func Expand(r rat.Rat, places int) (string, bool, api.Errno) {
	if places < 0 || places > api.MaxExpand {
		return "", false, api.ErrArg
	}
	// MaxExpand noughts are some 200 limbs: with those of a ratio they are far
	// from too long, and nothing is refused.
	scaled, _ := numeral.Scale(r.Num().Abs(), places)
	told, rest, _ := nat.DivMod(scaled, r.Den())
	return written(r.Sign() < 0, told, places), rest.IsZero(), api.OK
}

// parts are the digits ahead of the point and behind it; where the text is
// none of a number, the place at which that first shows.
func parts(s string) (ahead, behind string, at int, ok bool) {
	rest := strings.TrimLeft(s, digits)
	end := len(s) - len(rest)
	ahead = s[:end]
	if end == 0 || rest == "" {
		return ahead, "", end, end > 0
	}
	fraction, hasPoint := strings.CutPrefix(rest, point)
	if !hasPoint {
		return "", "", end, false
	}
	rest = strings.TrimLeft(fraction, digits)
	end = len(fraction) - len(rest)
	return ahead, fraction[:end], len(s) - len(rest), end > 0 && rest == ""
}

// worth takes digits without the noughts that count nothing. Texts may be of
// any length, so those with too many digits are refused ahead of reading them.
func worth(below bool, ahead, behind string) (api.Dec, api.Errno) {
	if len(behind) > api.MaxPlaces || len(ahead) > most {
		return api.Dec{}, api.ErrOver
	}
	// The nought stands for a number of no digits at all.
	n, _, _ := numeral.Parse(nought+ahead+behind, base)
	units, err := whole.New(below, n).Int64()
	if err != api.OK {
		return api.Dec{}, err
	}
	return api.Dec{Units: units, Places: len(behind)}, api.OK
}

// written tells n over ten to the power places; below is told even of 0, as
// more may have stood behind what is left of a number.
func written(below bool, n nat.Nat, places int) string {
	text, _ := numeral.Text(n, base)
	if short := places + 1 - len(text); short > 0 {
		text = strings.Repeat(nought, short) + text
	}
	if places > 0 {
		end := len(text) - places
		text = text[:end] + point + text[end:]
	}
	if below {
		text = minus + text
	}
	return text
}
