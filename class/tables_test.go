package class_test

import (
	"math"
	"slices"
	"strings"
	"testing"

	"tinder/api"
	"tinder/class"
	"tinder/scan"
)

const top = api.MaxPoint

// Names of the least and of the greatest length, and one that is too long for any.
var (
	name40 = strings.Repeat("aZ09_=Script", 4)[:40]
	name41 = name40 + "x"
)

var (
	digits = of('0', '9')
	spaces = of(9, 13, 32, 32, 0xA0, 0xA0, 0x1680, 0x1680, 0x2000, 0x200A, 0x2028, 0x2029, 0x202F, 0x202F, 0x205F, 0x205F, 0x3000, 0x3000, 0xFEFF, 0xFEFF)
	words  = of('0', '9', 'A', 'Z', '_', '_', 'a', 'z')
)

// odd are numbers that are no code points, or no signs; some are like signs in their lowest bits.
var odd = []int{
	-1, -2, -'d', math.MinInt, math.MinInt + 'd', math.MinInt32, 128, 0xC3, 0xFF, 256 + 'd', 256 + ']', 256 + '\\', 1<<16 + '-', 0xD83D, 0xDE00, 0x1F600, top - 1, top, top + 1, 1<<32 + ']', 1<<32 + '\\', 1<<32 + '-', 1<<40 + '{',
	1<<32 + 'w', -256 + 'p', math.MinInt + '^', 0x212A, 0x17F, 0xFF10, math.MaxInt32, math.MaxInt - 1, math.MaxInt,
}

var (
	bare     = api.Flags{}
	withFold = api.Flags{Fold: true}
)

// allFlags are those of any bits.
func allFlags() []api.Flags {
	var l []api.Flags
	for bits := range 16 {
		l = append(l, api.Flags{Fold: bits&1 > 0, Lines: bits&2 > 0, All: bits&4 > 0, Sticky: bits&8 > 0})
	}
	return l
}

// of is a row of ranges, by their ends.
func of(ends ...int) []api.Range {
	var l []api.Range
	for i := 0; i+1 < len(ends); i += 2 {
		l = append(l, api.Range{Lo: ends[i], Hi: ends[i+1]})
	}
	return l
}

// rowOf is a row of folds, each From ahead of its To.
func rowOf(ends ...int) []api.Fold {
	var l []api.Fold
	for i := 0; i+1 < len(ends); i += 2 {
		l = append(l, api.Fold{From: ends[i], To: ends[i+1]})
	}
	return l
}

// apart is a set of so many ranges, from 3 on.
func apart(n int) []api.Range {
	var l []api.Range
	for i := range n {
		l = append(l, api.Range{Lo: 4*i + 3, Hi: 4*i + 4})
	}
	return l
}

// signs are a text's bytes, each a code point.
func signs(text string) []int {
	var l []int
	for i := range len(text) {
		l = append(l, int(text[i]))
	}
	return l
}

// textOf is what of numbers may be read by a person.
func textOf(points []int) string {
	var b strings.Builder
	for _, c := range points {
		if c < 0 || c > top {
			c = 0xFFFD
		}
		b.WriteRune(rune(c))
	}
	return b.String()
}

// letters are right tables: folds of digits, of spaces and of letters, some of one canon, and sets with names.
func letters() api.Tables {
	return api.Tables{
		Folds: rowOf('0', 0xFF10, 'A', 'a', 'K', 'k', 'S', 's', 0xA0, '!', 0xC5, 0xE5, 0x17F, 's', 0x212A, 'k'),
		Props: []api.Prop{{Name: "=", Set: of('=', '=')}, {Name: "All", Set: of(0, top)}, {Name: "E", Set: of(0x1F600, 0x1F64F)}, {Name: "Lu", Set: of('A', 'Z')}, {Name: "None"}, {Name: name40, Set: of(0, 0, top, top)}},
	}
}

// wrong are tables of which one thing is wrong: they are none.
func wrong() []api.Tables {
	var l []api.Tables
	for range 7 {
		l = append(l, letters())
	}
	l[0].Folds[1].From = '0'
	l[1].Folds[1].To = 'A'
	l[2].Folds[1].To = 'S'
	l[3].Folds[7].To = top + 1
	l[4].Props[2].Name = "="
	l[5].Props[3].Set = of('Z', 'A')
	l[6].Props[3].Set = apart(2001)
	return l
}

// empty fails unless tables are taken as none, whatever is asked.
func empty(t *testing.T, x api.Tables) {
	t.Helper()
	for _, flags := range allFlags() {
		for _, text := range []string{"d", "D", "s", "S", "w", "W", "p{Lu}", "P{=}", "p{" + name40 + "}", "p{"} {
			set, is, e := class.Escape(scan.New(signs(text)...), flags, x)
			want, wantIs, wantE := class.Escape(scan.New(signs(text)...), bare, api.Tables{})
			if !slices.Equal(set, want) || is != wantIs || e != wantE {
				t.Error(text, set, is, e)
			}
			escapes(t, signs(text), 0, flags, x)
		}
		for _, text := range []string{"a]", "^k]", "\\w0]", "^\\S]", "\\p{Lu}]", "\\u212A-\\u212A]"} {
			reads(t, signs(text), 0, flags, x)
		}
		if set, e := class.Read(scan.New(signs("aK]")...), flags, x); e != api.OK || !slices.Equal(set, of('K', 'K', 'a', 'a')) {
			t.Error(set, e)
		}
	}
}

// TestWrongTables: P8.1, P8.2, tables that are not right are taken as none: nothing is alike, and no set has a name.
func TestWrongTables(t *testing.T) {
	for _, x := range wrong() {
		empty(t, x)
	}
	empty(t, api.Tables{})
}

// TestNilAndEmpty: R6, lists without elements and nil ones are one: in tables, and of a scan.
func TestNilAndEmpty(t *testing.T) {
	empty(t, api.Tables{Folds: []api.Fold{}, Props: []api.Prop{}})
	for _, none := range [][]api.Range{nil, {}, of(1, 2)[:0]} {
		x := api.Tables{Folds: rowOf('A', 'a')[:0], Props: []api.Prop{{Name: "None", Set: none}}}
		for _, flags := range []api.Flags{bare, withFold} {
			for _, sign := range []string{"p", "P"} {
				escapes(t, signs(sign+"{None}"), 0, flags, x)
				reads(t, signs("\\"+sign+"{None}]"), 0, flags, x)
				reads(t, signs("^\\"+sign+"{None}]"), 0, flags, x)
			}
		}
		if set, is, e := class.Escape(scan.New(signs("p{None}")...), withFold, x); len(set) > 0 || !is || e != api.OK {
			t.Error(set, is, e)
		}
	}
	for _, points := range [][]int{nil, {}, make([]int, 0, 9)} {
		for _, flags := range allFlags() {
			escapes(t, points, 0, flags, letters())
			reads(t, points, 0, flags, letters())
		}
		if set, e := class.Read(scan.New(points...), bare, letters()); set != nil || e != api.ErrSyntax {
			t.Error(set, e)
		}
	}
}
