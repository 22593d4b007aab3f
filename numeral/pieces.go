package numeral

import (
	"slices"

	"tollbook/api"
	"tollbook/nat"
)

// Texts and numbers are turned into each other by way of pieces: a numeral's
// digits, as many at a time as a limb holds, the lowest piece first. They are
// the digits of the number to a great base, and pairs of these are its digits
// to the square of that base. Going by squares halves how many there are at
// each step, where piece by piece the whole number is gone through for each.

// greatPower is the greatest power of the base that a limb holds, and how
// many digits a number below it has at most.
func greatPower(base int) (power uint64, size int) {
	by := uint64(base)
	power, size = by, 1
	for power <= (1<<64-1)/by {
		power *= by
		size++
	}
	return power, size
}

// read answers a numeral's pieces, those of noughts ahead left out; or ErrDigit
// and a place. Digits are one byte long, so up to the first rune that is none a
// rune is a byte; and where that one begins, the first wrong byte stands.
func read(s string, base, size int) ([]nat.Nat, int, api.Errno) {
	if s == "" {
		return nil, 0, api.ErrDigit
	}
	pieces := make([]nat.Nat, 0, len(s)/size+1)
	piece := uint64(0)
	for at, digit := range s {
		if worth(digit) >= base {
			return nil, at, api.ErrDigit
		}
		piece = piece*uint64(base) + uint64(worth(digit))
		behind := len(s) - at - 1
		if behind%size > 0 {
			continue
		}
		if piece > 0 || len(pieces) > 0 {
			pieces = append(pieces, nat.Small(piece))
		}
		piece = 0
	}
	slices.Reverse(pieces)
	return pieces, 0, api.OK
}

// joined is the number of which these are the digits to the base by, the
// highest of them not 0: so whatever is long on the way is not above the
// number, which is long then too.
func joined(digits []nat.Nat, by nat.Nat) (nat.Nat, api.Errno) {
	for len(digits) > 2 {
		pairs := make([]nat.Nat, 0, len(digits)/2+1)
		for pair := range slices.Chunk(digits, 2) {
			n, err := addedUp(pair, by)
			if err != api.OK {
				return nat.Nat{}, err
			}
			pairs = append(pairs, n)
		}
		square, err := nat.Mul(by, by)
		if err != api.OK {
			return nat.Nat{}, err
		}
		digits, by = pairs, square
	}
	return addedUp(digits, by)
}

// addedUp is joined for few digits, from the highest on.
func addedUp(digits []nat.Nat, by nat.Nat) (nat.Nat, api.Errno) {
	sum := nat.Nat{}
	for _, digit := range slices.Backward(digits) {
		moved, err := nat.Mul(sum, by)
		if err != api.OK {
			return nat.Nat{}, err
		}
		if sum, err = nat.Add(moved, digit); err != api.OK {
			return nat.Nat{}, err
		}
	}
	return sum, api.OK
}

// apart is the way back from joined: the digits of n to the base by; 0 has one.
func apart(n, by nat.Nat) []nat.Nat {
	if nat.Compare(n, by) < 0 {
		return []nat.Nat{n}
	}
	// A square that is long is above n, which then is a pair by itself.
	pairs := []nat.Nat{n}
	if square, err := nat.Mul(by, by); err == api.OK {
		pairs = apart(n, square)
	}
	digits := make([]nat.Nat, 0, 2*len(pairs))
	for _, pair := range pairs {
		high, low, _ := nat.DivMod(pair, by)
		digits = append(digits, low, high)
	}
	if last := len(digits) - 1; digits[last].IsZero() {
		return digits[:last]
	}
	return digits
}
