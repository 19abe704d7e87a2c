package nat

import (
	"cmp"

	"tinder/api"
)

// digits are a row of them, the lowest first.
type digits []uint32

// row is the digits of a number without the zeros at their end: they are the caller's memory, only to be read.
func row(a api.Nat) digits {
	return digits(a.Digits).right()
}

func (d digits) right() digits {
	end := len(d)
	for end > 0 && d[end-1] == 0 {
		end--
	}
	return d[:end]
}

// against is -1, 0, 1 of two rows without zeros at their ends.
func (d digits) against(other digits) int {
	order := cmp.Compare(len(d), len(other))
	for i := len(d) - 1; order == 0 && i >= 0; i-- {
		order = cmp.Compare(d[i], other[i])
	}
	return order
}

// widen puts zeros at the end, up to so many digits.
func (d *digits) widen(size int) {
	if more := size - len(*d); more > 0 {
		*d = append(*d, make(digits, more)...)
	}
}

// along puts a row to another one, place by place from the lowest on, and tells what is carried beyond the last one.
// Where row has no place any more, it counts as zero there.
func along[D any](to, row []D, carry D, step func(a, b, carry D) (digit, on D)) D {
	for i, a := range to {
		var b D
		if i < len(row) {
			b = row[i]
		}
		to[i], carry = step(a, b, carry)
	}
	return carry
}

// turned is a row of digits to the one base as a row of digits to the other one. Neither base is above 2^32.
func turned(d digits, from, to uint64) digits {
	var out digits
	scale := func(a, _, carry uint32) (uint32, uint32) {
		v := uint64(a)*from + uint64(carry)
		return uint32(v % to), uint32(v / to)
	}
	for i := len(d) - 1; i >= 0; i-- {
		over := uint64(along(out, nil, d[i], scale))
		for ; over > 0; over /= to {
			out = append(out, uint32(over%to))
		}
	}
	return out
}
