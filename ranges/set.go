package ranges

import (
	"cmp"
	"iter"
	"slices"

	"tinder/api"
)

// row is ranges of code points, each of which has some.
type row []api.Range

// put puts what a range has behind the others, if it has anything.
func (l *row) put(r api.Range) {
	r.Lo, r.Hi = max(r.Lo, 0), min(r.Hi, api.MaxPoint)
	if r.Lo <= r.Hi {
		*l = append(*l, r)
	}
}

// order lets the lower ends rise.
func (l row) order() {
	slices.SortFunc(l, func(a, b api.Range) int { return cmp.Compare(a.Lo, b.Lo) })
}

// set is a set at work: its ranges, in their order and in memory of its own. They may have code points in common.
type set struct{ row }

func joined(l ...[]api.Range) set {
	var s set
	for _, a := range l {
		for _, r := range a {
			s.put(r)
		}
	}
	s.order()
	return s
}

// all goes through the set's right ranges: those of its row that meet or touch come as one.
func (s set) all() iter.Seq[api.Range] {
	return func(yield func(api.Range) bool) {
		for i := 0; i < len(s.row); {
			one := s.row[i]
			for i++; i < len(s.row) && s.row[i].Lo <= one.Hi+1; i++ {
				one.Hi = max(one.Hi, s.row[i].Hi)
			}
			if !yield(one) {
				return
			}
		}
	}
}

// others is what the set has not: the ranges between its right ones, ahead of them and behind them.
func (s set) others() []api.Range {
	var l row
	next := 0
	for r := range s.all() {
		l.put(api.Range{Lo: next, Hi: r.Lo - 1})
		next = r.Hi + 1
	}
	l.put(api.Range{Lo: next, Hi: api.MaxPoint})
	return l
}
