package fold

import (
	"cmp"
	"slices"
	"strings"

	"tinder/api"
	"tinder/ranges"
)

// tables are tables at work.
type tables struct{ api.Tables }

// taken are tables as they are taken: wrong ones as none.
func taken(t api.Tables) tables {
	if work := (tables{t}); work.right() {
		return work
	}
	return tables{}
}

func (t tables) right() bool {
	return t.foldsRight() && t.propsRight()
}

func (t tables) foldsRight() bool {
	for i, f := range t.Folds {
		if !point(f.From) || !point(f.To) || i > 0 && f.From <= t.Folds[i-1].From {
			return false
		}
	}
	// Folds are found by their order: this may be asked when it is known to hold. A fold to itself is found, too.
	return !slices.ContainsFunc(t.Folds, func(f api.Fold) bool {
		_, is := t.fold(f.To)
		return is
	})
}

func (t tables) propsRight() bool {
	for i, p := range t.Props {
		if !named(p.Name) || i > 0 && p.Name <= t.Props[i-1].Name || len(p.Set) > api.MaxRanges || !ranges.Right(p.Set) {
			return false
		}
	}
	return true
}

// fold is the To of the fold that has a From, if there is one.
func (t tables) fold(from int) (int, bool) {
	at, is := slices.BinarySearchFunc(t.Folds, from, func(f api.Fold, from int) int { return cmp.Compare(f.From, from) })
	if !is {
		return 0, false
	}
	return t.Folds[at].To, true
}

// prop is the Set of a Name, if there is one: the tables' own memory.
func (t tables) prop(name string) ([]api.Range, bool) {
	at, is := slices.BinarySearchFunc(t.Props, name, func(p api.Prop, name string) int { return strings.Compare(p.Name, name) })
	if !is {
		return nil, false
	}
	return t.Props[at].Set, true
}

// rows are, by their canon, all code points that are alike one of a right set, but those that are alike themselves alone.
func (t tables) rows(set []api.Range) map[int][]int {
	rows := map[int][]int{}
	for _, f := range t.Folds {
		if has(set, f.From) || has(set, f.To) {
			rows[f.To] = []int{f.To}
		}
	}
	for _, f := range t.Folds {
		if row, met := rows[f.To]; met {
			rows[f.To] = append(row, f.From)
		}
	}
	return rows
}

// has says whether a right set has a code point. It is asked of every fold: so it does not go through all ranges, as ranges.Has must.
func has(set []api.Range, c int) bool {
	at, _ := slices.BinarySearchFunc(set, c, func(r api.Range, c int) int { return cmp.Compare(r.Hi, c) })
	return at < len(set) && set[at].Lo <= c
}

func point(c int) bool {
	return 0 <= c && c <= api.MaxPoint
}

// named says whether a text may be a Prop's name.
func named(name string) bool {
	return len(name) > 0 && len(name) <= api.MaxName && !strings.ContainsFunc(name, func(c rune) bool { return !sign(c) })
}

func sign(c rune) bool {
	return 'a' <= c && c <= 'z' || 'A' <= c && c <= 'Z' || '0' <= c && c <= '9' || c == '_' || c == '='
}
