package fold_test

import (
	"math/rand"
	"slices"
	"strings"
	"testing"
	"unicode"

	"tinder/api"
	"tinder/fold"
)

const top = api.MaxPoint

// of is a row of ranges, by their ends.
func of(ends ...int) []api.Range {
	var l []api.Range
	for i := 0; i+1 < len(ends); i += 2 {
		l = append(l, api.Range{Lo: ends[i], Hi: ends[i+1]})
	}
	return l
}

// folds is a row of folds, each From ahead of its To.
func folds(ends ...int) []api.Fold {
	var l []api.Fold
	for i := 0; i+1 < len(ends); i += 2 {
		l = append(l, api.Fold{From: ends[i], To: ends[i+1]})
	}
	return l
}

// many is a set of so many ranges.
func many(n int) []api.Range {
	var l []api.Range
	for i := range n {
		l = append(l, api.Range{Lo: 3 * i, Hi: 3*i + 1})
	}
	return l
}

// letters are right tables: folds with some of one canon, one far above its canon, and sets with names.
func letters() api.Tables {
	return api.Tables{
		Folds: folds('A', 'a', 'K', 'k', 'S', 's', 0xC5, 0xE5, 0x17F, 's', 0x1E9E, 0xDF, 0x212A, 'k', 0x212B, 0xE5),
		Props: []api.Prop{{Name: "L", Set: of('A', 'Z', 'a', 'z')}, {Name: "Lu", Set: of('A', 'Z')}, {Name: "Script=Latin", Set: of('A', 'Z', 'a', 'z', 0x17F, 0x17F)}},
	}
}

// ends are right tables about 0 and MaxPoint.
func ends() api.Tables {
	return api.Tables{
		Folds: folds(0, top, 5, 4, 6, 4, 9, 4, top-1, top),
		Props: []api.Prop{{Name: "All", Set: of(0, top)}, {Name: "Ends", Set: of(0, 0, top, top)}, {Name: "None"}},
	}
}

// unicodes are right tables as they are in use: all code points that differ by their case alone, and all sets that have names.
func unicodes() api.Tables {
	var t api.Tables
	for c := range rune(unicode.MaxRune + 1) {
		least := c
		for d := unicode.SimpleFold(c); d != c; d = unicode.SimpleFold(d) {
			least = min(least, d)
		}
		if least != c {
			t.Folds = append(t.Folds, api.Fold{From: int(c), To: int(least)})
		}
	}
	for _, sets := range []map[string]*unicode.RangeTable{unicode.Categories, unicode.Scripts} {
		for name, set := range sets {
			t.Props = append(t.Props, api.Prop{Name: name, Set: rangesOf(set)})
		}
	}
	slices.SortFunc(t.Props, func(a, b api.Prop) int { return strings.Compare(a.Name, b.Name) })
	return t
}

// rangesOf are the ranges of a table of the library.
func rangesOf(table *unicode.RangeTable) []api.Range {
	var l []api.Range
	put := func(lo, hi, stride int) {
		for c := lo; c <= hi; c += stride {
			if n := len(l); n > 0 && l[n-1].Hi == c-1 {
				l[n-1].Hi = c
			} else {
				l = append(l, api.Range{Lo: c, Hi: c})
			}
		}
	}
	for _, r := range table.R16 {
		put(int(r.Lo), int(r.Hi), int(r.Stride))
	}
	for _, r := range table.R32 {
		put(int(r.Lo), int(r.Hi), int(r.Stride))
	}
	return l
}

// random are tables of a few folds and props about few numbers, right ones and wrong ones.
func random(r *rand.Rand) api.Tables {
	numbers := []int{-1, 0, 1, 2, 3, 4, 5, 6, 7, 8, top - 2, top - 1, top, top + 1}
	var t api.Tables
	for _, at := range r.Perm(len(numbers))[:r.Intn(6)] {
		t.Folds = append(t.Folds, api.Fold{From: numbers[at], To: numbers[r.Intn(len(numbers))]})
	}
	if r.Intn(4) > 0 {
		slices.SortFunc(t.Folds, func(a, b api.Fold) int { return a.From - b.From })
	}
	names := []string{"", "A", "AB", "B", "_", "a", "=", "a b", "z"}
	for _, at := range r.Perm(len(names))[:r.Intn(3)] {
		t.Props = append(t.Props, api.Prop{Name: names[at], Set: row(r, r.Intn(3))})
	}
	if r.Intn(4) > 0 {
		slices.SortFunc(t.Props, func(a, b api.Prop) int { return strings.Compare(a.Name, b.Name) })
	}
	return t
}

// row is so many ranges of no special order, some of them without anything, some reaching beyond the code points.
func row(r *rand.Rand, n int) []api.Range {
	var l []api.Range
	for range n {
		lo := r.Intn(12) - 2
		if r.Intn(4) == 0 {
			lo += top - 6
		}
		l = append(l, api.Range{Lo: lo, Hi: lo + r.Intn(4) - 1})
	}
	return l
}

// rightTables is whether tables are right, as the chapter's words say it.
func rightTables(t api.Tables) bool {
	for i, f := range t.Folds {
		if f.From < 0 || f.From > top || f.To < 0 || f.To > top || f.To == f.From {
			return false
		}
		for j, g := range t.Folds {
			if g.From == f.To || j < i && g.From >= f.From {
				return false
			}
		}
	}
	for i, p := range t.Props {
		if !rightName(p.Name) || !rightSet(p.Set) {
			return false
		}
		for _, q := range t.Props[:i] {
			if q.Name >= p.Name {
				return false
			}
		}
	}
	return true
}

func rightName(name string) bool {
	return len(name) >= 1 && len(name) <= 40 && strings.Trim(name, "abcdefghijklmnopqrstuvwxyzABCDEFGHIJKLMNOPQRSTUVWXYZ0123456789_=") == ""
}

func rightSet(l []api.Range) bool {
	for i, r := range l {
		if r.Lo < 0 || r.Lo > r.Hi || r.Hi > top || i > 0 && r.Lo <= l[i-1].Hi+1 {
			return false
		}
	}
	return len(l) <= 2000
}

// foldsOf are the folds of tables, none of wrong ones.
func foldsOf(t api.Tables) []api.Fold {
	if rightTables(t) {
		return t.Folds
	}
	return nil
}

// canon is a number's canon, as the chapter's words say it.
func canon(folds []api.Fold, c int) int {
	for _, f := range folds {
		if f.From == c {
			return f.To
		}
	}
	return c
}

// had is whether ranges have a number.
func had(l []api.Range, c int) bool {
	return c >= 0 && c <= top && slices.ContainsFunc(l, func(r api.Range) bool { return r.Lo <= c && c <= r.Hi })
}

// closed is all code points that are alike one of ranges, as the chapter's words say it; what no fold names is alike itself alone.
func closed(t api.Tables, l ...[]api.Range) []api.Range {
	whole := slices.Concat(l...)
	folds := foldsOf(t)
	var named []int
	for _, f := range folds {
		named = append(named, f.From, f.To)
	}
	starts := []int{0, top + 1}
	for _, c := range named {
		starts = append(starts, c, c+1)
	}
	for _, r := range whole {
		starts = append(starts, max(0, min(r.Lo, top+1)), max(0, min(r.Hi, top)+1))
	}
	slices.Sort(starts)
	starts = slices.Compact(starts)
	var out []api.Range
	for i, c := range starts[:len(starts)-1] {
		is := had(whole, c) || slices.ContainsFunc(named, func(d int) bool { return canon(folds, c) == canon(folds, d) && had(whole, d) })
		if n := len(out); is && n > 0 && out[n-1].Hi == c-1 {
			out[n-1].Hi = starts[i+1] - 1
		} else if is {
			out = append(out, api.Range{Lo: c, Hi: starts[i+1] - 1})
		}
	}
	return out
}

// same fails unless ranges are those that are wanted.
func same(t *testing.T, got, want []api.Range, what ...any) {
	t.Helper()
	if !slices.Equal(got, want) {
		t.Fatal("got", got, "want", want, "of", what)
	}
}

// none fails unless tables are wrong, and taken as none.
func none(t *testing.T, x api.Tables, what ...any) {
	t.Helper()
	if fold.Right(x) {
		t.Error("right:", what)
	}
	for _, f := range x.Folds {
		for _, c := range []int{f.From, f.To} {
			if got := fold.Canon(x, c); got != c {
				t.Error("canon", c, got, what)
			}
			same(t, fold.Close(x, of(c, c)), closed(api.Tables{}, of(c, c)), what)
		}
	}
	for _, p := range x.Props {
		if set, is := fold.Prop(x, p.Name); is || len(set) > 0 {
			t.Error("prop", p.Name, set, what)
		}
	}
	same(t, fold.Close(x, of(0, top)), of(0, top), what)
	same(t, fold.Words(x, true), fold.Words(x, false), what)
}
