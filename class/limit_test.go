package class_test

import (
	"fmt"
	"slices"
	"strings"
	"testing"

	"tinder/api"
	"tinder/class"
	"tinder/ranges"
	"tinder/scan"
)

// written are ranges as they stand in brackets, by escapes.
func written(set []api.Range) string {
	var b strings.Builder
	for _, r := range set {
		fmt.Fprintf(&b, "\\u{%X}-\\u{%X}", r.Lo, r.Hi)
	}
	return b.String()
}

// singles are so many numbers, of which no two touch, from the first one on.
func singles(first, many int) []int {
	var l []int
	for i := range many {
		l = append(l, first+2*i)
	}
	return l
}

// most fails unless all is read, and the set is that or, of more ranges than there may be, none and ErrLong.
func most(t *testing.T, points []int, flags api.Flags, x api.Tables, want []api.Range) {
	t.Helper()
	wantE := api.OK
	if len(want) > 2000 {
		want, wantE = nil, api.ErrLong
	}
	s := scan.New(append(slices.Clone(points), 'a', ']')...)
	set, e := class.Read(s, flags, x)
	if e != wantE || !slices.Equal(set, want) || s.At() != len(points) {
		t.Errorf("%d ranges, %v, at %d of %d; want %d, %v", len(set), e, s.At(), len(points), len(want), wantE)
	}
}

// TestMostRanges: P8.2, sets of 2000 ranges, of one more, one less, of many more: all is read.
func TestMostRanges(t *testing.T) {
	for _, n := range []int{1, 1999, 2000, 2001, 2002, 5000} {
		set := apart(n)
		for _, flags := range []api.Flags{bare, withFold} {
			most(t, signs(written(set)+"]"), flags, api.Tables{}, set)
			most(t, signs("^"+written(set)+"]"), flags, api.Tables{}, others(set))
		}
		slices.Reverse(set)
		most(t, signs(written(set)+"]"), bare, api.Tables{}, apart(n))
		numbers := append(singles(0x1000, n), ']')
		most(t, numbers, bare, api.Tables{}, ranges.Of(numbers[:n]...))
		// Numbers that are no code points do not count.
		most(t, slices.Concat(singles(-3*n, n), singles(top+1, n), numbers), bare, api.Tables{}, ranges.Of(numbers[:n]...))
	}
}

// TestMostWhole: P8.2, what counts are the ranges of the whole set: not what was read, nor what there is ahead of ^ or of closing.
func TestMostWhole(t *testing.T) {
	// More than 2000 parts that touch are few ranges.
	most(t, append(slices.Repeat(singles(0x1000, 1500), 3), ']'), bare, api.Tables{}, ranges.Of(singles(0x1000, 1500)...))
	most(t, slices.Concat(singles(0x1000, 3000), singles(0x1001, 3000), []int{']'}), bare, api.Tables{}, of(0x1000, 0x1000+2*3000-1))
	// 2001 ranges from 0 to the end: all others are 2000, and the other way round.
	ends := append(apart(2000), api.Range{Lo: 9000, Hi: top})
	ends[0].Lo = 0
	most(t, signs(written(ends)+"]"), bare, api.Tables{}, ends)
	most(t, signs("^"+written(ends)+"]"), bare, api.Tables{}, others(ends))
	most(t, signs(written(others(ends))+"]"), bare, api.Tables{}, others(ends))
	most(t, signs("^"+written(others(ends))+"]"), bare, api.Tables{}, ends)
	// One end alone: as many as there are.
	half := slices.Clone(ends[:2000])
	most(t, signs("^"+written(half)+"]"), bare, api.Tables{}, others(half))
	most(t, signs(written(ends[:2000])+"\\d]"), bare, api.Tables{}, ranges.Join(ends[:2000], digits))
}

// TestMostFolded: P8.2, what closing adds counts, and what it joins does not.
func TestMostFolded(t *testing.T) {
	x := api.Tables{Folds: rowOf('A', 0x9000, 'B', 0x1001)}
	numbers := singles(0x1000, 2000)
	most(t, slices.Concat(numbers, []int{']'}), withFold, x, ranges.Of(numbers...))
	most(t, slices.Concat(numbers[:1998], []int{'A', ']'}), withFold, x, ranges.Of(append([]int{'A', 0x9000}, numbers[:1998]...)...))
	most(t, slices.Concat(numbers[:1999], []int{'A', ']'}), withFold, x, ranges.Of(append([]int{'A', 0x9000}, numbers[:1999]...)...))
	most(t, slices.Concat(numbers[:1999], []int{'A', ']'}), bare, x, ranges.Of(append([]int{'A'}, numbers[:1999]...)...))
	most(t, slices.Concat(numbers, []int{'B', ']'}), withFold, x, ranges.Of(append([]int{'B', 0x1001}, numbers...)...))
	most(t, slices.Concat(numbers, []int{'B', ']'}), bare, x, ranges.Of(append([]int{'B'}, numbers...)...))
}

// TestMostProps: P8.2, of a Prop of as many ranges as it may have: it is read, and all others of it are too many.
func TestMostProps(t *testing.T) {
	x := api.Tables{Props: []api.Prop{{Name: "A", Set: apart(2000)}}}
	for _, flags := range allFlags() {
		most(t, signs("\\p{A}]"), flags, x, apart(2000))
		most(t, signs("\\P{A}]"), flags, x, others(apart(2000)))
		most(t, signs("^\\p{A}]"), flags, x, others(apart(2000)))
		most(t, signs("^\\P{A}]"), flags, x, apart(2000))
		most(t, signs("\\p{A}\\0]"), flags, x, ranges.Join(of(0, 0), apart(2000)))
		most(t, signs("\\p{A}\\x02]"), flags, x, ranges.Join(of(2, 2), apart(2000)))
		most(t, signs("\\P{A}\\x03]"), flags, x, ranges.Join(of(3, 3), others(apart(2000))))
		most(t, signs("\\P{A}\\x03\\x04]"), flags, x, ranges.Join(of(3, 4), others(apart(2000))))
	}
}

// TestMostLast: P8.2, ErrLong is told last: each other error comes ahead of it, wherever it is met.
func TestMostLast(t *testing.T) {
	many := singles(0x1000, 2500)
	for _, c := range []struct {
		text string
		e    api.Errno
		at   int
	}{
		{"", api.ErrSyntax, 0}, {"\\q]", api.ErrSyntax, 1}, {"\\d-a]", api.ErrSyntax, 4}, {"\\p{No}]", api.ErrName, 6}, {"b-a]", api.ErrOrder, 3}, {"a", api.ErrSyntax, 1}, {"]", api.ErrLong, 1}, {"a-]", api.ErrLong, 3}, {"-]", api.ErrLong, 2},
	} {
		s := scan.New(append(slices.Clone(many), signs(c.text)...)...)
		if set, e := class.Read(s, bare, letters()); set != nil || e != c.e || s.At() != len(many)+c.at {
			t.Error(c.text, set, e, s.At()-len(many))
		}
	}
}

// TestGreat: R1, R7, classes of very many parts come to an end, and what they name over and over is remembered once.
func TestGreat(t *testing.T) {
	const n = 1 << 16
	for _, x := range []struct {
		text string
		want []api.Range
		e    api.Errno
	}{
		{"a", of('a', 'a'), api.OK}, {"a-z", of('a', 'z'), api.OK}, {"-", of('-', '-'), api.OK}, {"\\b", of(8, 8), api.OK}, {"\\u{41}-\\x5A", of('A', 'Z'), api.OK}, {"^", of(0, '^'-1, '^'+1, top), api.OK},
	} {
		points := append(slices.Repeat(signs(x.text), n), ']')
		s := scan.New(points...)
		if set, e := class.Read(s, bare, api.Tables{}); e != x.e || !slices.Equal(set, x.want) || !s.Done() {
			t.Error(x.text, set, e, s.At())
		}
		s = scan.New(points[:len(points)-1]...)
		if set, e := class.Read(s, bare, api.Tables{}); e != api.ErrSyntax || set != nil || !s.Done() {
			t.Error(x.text, set, e, s.At())
		}
	}
	tables := api.Tables{Props: []api.Prop{{Name: "A", Set: apart(2000)}}}
	most(t, append(slices.Repeat(signs("\\p{A}"), 1000), ']'), bare, tables, apart(2000))
	most(t, append(slices.Repeat(signs("\\P{A}"), 1000), ']'), withFold, tables, others(apart(2000)))
	s := scan.New(slices.Repeat(signs("p{A"), n)...)
	if set, is, e := class.Escape(s, bare, tables); set != nil || !is || e != api.ErrSyntax || s.At() != 4 {
		t.Error(set, is, e, s.At())
	}
}
