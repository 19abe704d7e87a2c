package parts

import (
	"cmp"
	"slices"

	"tinder/api"
	"tinder/ranges"
)

// cuts are the first code points of the pieces that all code points are cut to, rising from 0 on.
type cuts []int

// cut lets a piece begin at a code point behind all cuts; what is none begins nothing.
func (l *cuts) cut(c int) {
	if c > 0 && c <= api.MaxPoint {
		*l = append(*l, c)
	}
}

// last is the last code point of a piece.
func (l cuts) last(piece int) int {
	if piece == len(l)-1 {
		return api.MaxPoint
	}
	return l[piece+1] - 1
}

// classes are classes at work: of each piece its class, numbered from 0 on as they are met. Pieces side by side are of two classes.
type classes struct {
	cuts
	of []int
}

// mark tells code points apart: its classes by the first and by the last ones of some sets.
type mark struct{ by [2]int }

// parted are the classes by some sets, and whether they are as few as may be. To part by each half and to bring both together goes log(sets) times through all pieces; set by set it would be as often as there are sets.
func parted(sets [][]api.Range) (classes, bool) {
	switch len(sets) {
	case 0:
		return bySet(nil), true
	case 1:
		return bySet(sets[0]), true
	}
	half := len(sets) / 2
	first, few := parted(sets[:half])
	if !few {
		return classes{}, false
	}
	last, few := parted(sets[half:])
	if !few {
		return classes{}, false
	}
	return first.with(last)
}

// bySet are the classes by one set.
func bySet(set []api.Range) classes {
	l := classes{cuts: cuts{0}}
	for _, r := range ranges.Join(set) {
		l.cut(r.Lo)
		l.cut(r.Hi + 1)
	}
	// The set has every other piece.
	for piece := range l.cuts {
		l.of = append(l.of, piece%2)
	}
	return l
}

// with are the classes by the sets of both, and whether they are as few as may be.
func (l classes) with(m classes) (classes, bool) {
	var both classes
	numbers := map[mark]int{}
	for i, j := 0, 0; i < len(l.cuts); {
		here := mark{[2]int{l.of[i], m.of[j]}}
		number, met := numbers[here]
		if !met {
			number = len(numbers)
			numbers[here] = number
		}
		if number >= api.MaxClasses {
			return classes{}, false
		}
		both.cuts = append(both.cuts, max(l.cuts[i], m.cuts[j]))
		both.of = append(both.of, number)
		// The last pieces of both end at one code point, so neither is left before the other.
		ends, others := l.last(i), m.last(j)
		if ends <= others {
			i++
		}
		if others <= ends {
			j++
		}
	}
	return both, true
}

// sets are the classes as sets, in memory of their own each.
func (l classes) sets() [][]api.Range {
	var out [][]api.Range
	for piece, number := range l.of {
		if number == len(out) {
			out = append(out, nil)
		}
		out[number] = append(out[number], api.Range{Lo: l.cuts[piece], Hi: l.last(piece)})
	}
	return out
}

// meets says whether a right set has a code point of a range.
func meets(set []api.Range, r api.Range) bool {
	at, _ := slices.BinarySearchFunc(set, r.Lo, func(s api.Range, lo int) int { return cmp.Compare(s.Hi, lo) })
	return at < len(set) && r.Lo <= r.Hi && set[at].Lo <= r.Hi
}
