// Package nat is layer 1: natural numbers without end (see shared/doc/01-nat.md).
package nat

import (
	"math/bits"

	"tinder/api"
)

// Right says whether a number is.
func Right(a api.Nat) bool {
	return len(row(a)) == len(a.Digits)
}

// Of is a number of 64 bits.
func Of(n uint64) api.Nat {
	return number{digits{uint32(n), uint32(n >> 32)}}.nat()
}

// Add is a sum.
func Add(l ...api.Nat) api.Nat {
	var sum number
	for _, a := range l {
		sum.plus(row(a))
	}
	return sum.nat()
}

// Mul is a product.
func Mul(l ...api.Nat) api.Nat {
	product := one()
	for _, a := range l {
		product.times(row(a))
	}
	return product.nat()
}

// Sub is a difference.
func Sub(a, b api.Nat) (api.Nat, bool) {
	if Cmp(a, b) < 0 {
		return api.Nat{}, false
	}
	var rest number
	rest.plus(row(a))
	rest.minus(row(b))
	return rest.nat(), true
}

// Pow is a power.
func Pow(a api.Nat, n int) (api.Nat, api.Errno) {
	if n < 0 {
		return api.Nat{}, api.ErrArg
	}
	base, power := row(a), one()
	// From the highest bit of n on, nothing that is met is above the power itself: what is too long may end it at once.
	for i := bits.Len(uint(n)) - 1; i >= 0; i-- {
		power.times(power.digits)
		if n>>i&1 == 1 {
			power.times(base)
		}
		if len(power.digits) > api.MaxDigits {
			return api.Nat{}, api.ErrLong
		}
	}
	return power.nat(), api.OK
}

// Cmp is -1, 0, 1.
func Cmp(a, b api.Nat) int {
	return row(a).against(row(b))
}

// number is a number at work. Its digits are its own memory, and may change in place.
type number struct{ digits }

func one() number {
	return number{digits{1}}
}

// nat hands out the digits: the number is not to be used any more.
func (n number) nat() api.Nat {
	if d := n.right(); len(d) > 0 {
		return api.Nat{Digits: d}
	}
	return api.Nat{}
}

func (n *number) plus(more digits) {
	n.widen(len(more))
	if carry := along(n.digits, more, 0, bits.Add32); carry > 0 {
		n.digits = append(n.digits, carry)
	}
}

// minus takes away what is not above the number.
func (n *number) minus(less digits) {
	along(n.digits, less, 0, bits.Sub32)
}

// times puts the product into new memory, so that a number can be multiplied by itself.
func (n *number) times(by digits) {
	product := make(digits, len(n.digits)+len(by))
	for i, m := range n.digits {
		end := i + len(by)
		product[end] = along(product[i:end], by, 0, func(a, b, carry uint32) (uint32, uint32) {
			v := uint64(m)*uint64(b) + uint64(a) + uint64(carry)
			return uint32(v), uint32(v >> 32)
		})
	}
	n.digits = product.right()
}
