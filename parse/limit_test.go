package parse_test

import (
	"fmt"
	"strings"
	"testing"

	"tinder/api"
	"tinder/parse"
	"tinder/ranges"
	"tinder/tree"
)

// around is a text within so many heads and as many ).
func around(n int, head, text string) string {
	return strings.Repeat(head, n) + text + strings.Repeat(")", n)
}

// TestDeepest: P9.1, trees 60 deep, and one deeper, whatever it is that makes them deep.
func TestDeepest(t *testing.T) {
	for n := 57; n <= 62; n++ {
		for _, head := range []string{"(?>", "(?=", "(?!", "(?<=", "(?<!", "(?:|"} {
			deepest(t, around(n, head, ""), n+1)
			deepest(t, around(n, head, "ab"), n+2)
			deepest(t, "ab|c*"+around(n, head, ""), n+3)
		}
		// A sequence that has one term alone is none.
		deepest(t, around(n, "(?:a", ""), n)
		deepest(t, around(n, "(?:a", "b"), n+1)
		deepest(t, around(n, "a(?:", "b"), n+1)
	}
	for n := 10; n <= 20; n++ {
		// Within an atomic part what is repeated, of that an alternative, of that a sequence, and in it a look ahead.
		deepest(t, strings.Repeat("(?>(?:a|(?=", n)+strings.Repeat(")b)*)", n), 5*n+1)
		// Here a group, too: of these there may be 20.
		deepest(t, strings.Repeat("(?:(|", n)+strings.Repeat(")+)", n), 3*n+1)
	}
	for n := 26; n <= 33; n++ {
		deepest(t, strings.Repeat("(?:", 2*n)+"a"+strings.Repeat("*)", 2*n), 2*n+1)
		deepest(t, strings.Repeat("(?:(?>", n)+strings.Repeat("){0,1}?)", n), 2*n+1)
	}
	for _, n := range []int{1, 59, 60, 61, 499} {
		deepest(t, around(n, "(?:", ""), 1)
	}
	deepest(t, strings.Repeat("(?>a)", 400), 3)
	deepest(t, strings.Repeat("a|", 1000), 2)
}

// deepest fails unless a pattern is refused just if so deep a tree may not be.
func deepest(t *testing.T, text string, deep int) {
	t.Helper()
	r, at, e := alike(t, text, withFold, tables())
	want, wantDeep := api.OK, deep
	if deep > 60 {
		want, wantDeep = api.ErrDepth, 0
	}
	if e != want || at != 0 || tree.Deep(r.Tree) != wantDeep {
		t.Errorf("%.60q, %d deep: %v at %d, %d deep", text, deep, e, at, tree.Deep(r.Tree))
	}
}

// TestLongest: P9.1, patterns of 2000 code points, of one less and of one more.
func TestLongest(t *testing.T) {
	for _, sign := range []string{"a", "é", "\u20AC", "\U0001F600", "|", "^", "."} {
		for n := 1999; n <= 2001; n++ {
			r, at, e := alike(t, strings.Repeat(sign, n), withFold, tables())
			want := api.OK
			if n > 2000 {
				want = api.ErrLong
			}
			nodes := n + 1
			if sign == "|" {
				nodes++
			}
			if e != want || at != 0 || e == api.OK && len(r.Tree.Nodes) != nodes {
				t.Errorf("%d of %q: %v at %d, %d nodes", n, sign, e, at, len(r.Tree.Nodes))
			}
		}
	}
	// As many nodes as there may be of so few signs: all that is read is in order.
	for _, text := range []string{
		strings.Repeat("|", 2000), strings.Repeat("ab|", 666), strings.Repeat("a*|", 666), strings.Repeat("()", 20) + strings.Repeat("^^|", 653), strings.Repeat("(?:|", 400) + strings.Repeat(")", 400), strings.Repeat("(?>|)", 400), strings.Repeat("(?:|)*", 333), strings.Repeat("a+", 1000),
		strings.Repeat(`\1`, 1000), strings.Repeat(`\k<n>`, 400), strings.Repeat("[]", 1000), strings.Repeat("(?=)", 500),
	} {
		r, _, e := alike(t, text, api.Flags{}, tables())
		if e == api.OK && tree.Deep(r.Tree) == 0 {
			t.Errorf("%.60q", text)
		}
	}
}

// escapedText are ranges as they stand in brackets.
func escapedText(set []api.Range) string {
	var b strings.Builder
	for _, r := range set {
		fmt.Fprintf(&b, `\u{%x}-\u{%x}`, r.Lo, r.Hi)
	}
	return b.String()
}

// many fails unless a set is told as it is, or, if it has too many ranges, ErrLong, at the term's place, wherever that is.
func many(t *testing.T, text string, flags api.Flags, x api.Tables, set []api.Range) {
	t.Helper()
	for ahead, from := range map[string]int{"": 0, "é": 1, "(é|": 3} {
		r, at, e := alike(t, ahead+text+strings.Repeat(")", len(ahead)/4), flags, x)
		if len(set) > 2000 {
			if e != api.ErrLong || at != from {
				t.Errorf("%.20q, %d ranges: %v at %d; want %v at %d", ahead+text, len(set), e, at, api.ErrLong, from)
			}
			continue
		}
		if e != api.OK {
			t.Errorf("%.20q, %d ranges: %v at %d", ahead+text, len(set), e, at)
			continue
		}
		told := false
		for _, n := range r.Tree.Nodes {
			told = told || n.Kind == api.NodeSet && setText(n.Set) == setText(set)
		}
		if !told {
			t.Errorf("%.20q: %s", ahead+text, shown(r))
		}
	}
}

// rowAlike are tables in which so many code points are alike, no two of which touch, and all that are.
func rowAlike(n int) (api.Tables, []api.Range) {
	var x api.Tables
	row := of('a', 'a')
	for i := range n - 1 {
		c := 0x10000 + 2*i
		x.Folds = append(x.Folds, api.Fold{From: c, To: 'a'})
		row = append(row, api.Range{Lo: c, Hi: c})
	}
	return x, row
}

// TestMostRanges: P9.1, sets of 2000 ranges, of one less and of one more, of a term of each sort.
func TestMostRanges(t *testing.T) {
	for n := 1998; n <= 2002; n++ {
		// One code point that is alike so many.
		x, row := rowAlike(n)
		for _, text := range []string{"a", `\u{61}`, `\x61`, "[a]", "\U00010000", `\uD800\uDC00`} {
			many(t, text, withFold, x, row)
			many(t, text+"*", withFold, x, row)
		}
		many(t, "a", api.Flags{Lines: true, All: true, Sticky: true}, x, of('a', 'a'))
		many(t, "b", withFold, x, of('b', 'b'))
		many(t, ".", withFold, x, of(0, 9, 11, 12, 14, 0x2027, 0x202A, top))
		many(t, "[^a]", withFold, x, ranges.Not(row))
		words := ranges.Join(row, of('0', '9', 'A', 'Z', '_', '_', 'a', 'z'))
		many(t, `\w`, withFold, x, words)
		many(t, `[\w]`, withFold, x, words)
		many(t, `\w`, api.Flags{}, x, of('0', '9', 'A', 'Z', '_', '_', 'a', 'z'))
		// All others of a set that has a name.
		if n != 1999 && n != 2000 {
			continue
		}
		x = api.Tables{Props: []api.Prop{{Name: "A", Set: apart(n)}}}
		for _, flags := range []api.Flags{{}, withFold, {Lines: true, All: true, Sticky: true}} {
			many(t, `\p{A}`, flags, x, apart(n))
			many(t, `\P{A}`, flags, x, ranges.Not(apart(n)))
			many(t, `[\p{A}]`, flags, x, apart(n))
			many(t, `[\P{A}]`, flags, x, ranges.Not(apart(n)))
			many(t, `[^\p{A}]`, flags, x, ranges.Not(apart(n)))
		}
	}
	// What closing adds, to a set that has a name.
	x := api.Tables{Folds: []api.Fold{{From: 'A', To: 'a'}, {From: 0x9000, To: 'a'}}, Props: []api.Prop{{Name: "A", Set: ranges.Join(of('a', 'a'), apart(2000)[40:])}}}
	most := ranges.Join(x.Props[0].Set, of('A', 'A', 0x9000, 0x9000))
	many(t, `\p{A}`, withFold, x, most)
	many(t, `\p{A}`, api.Flags{}, x, x.Props[0].Set)
	x.Props[0].Set = ranges.Join(of('a', 'a'), apart(2037)[38:])
	many(t, `\p{A}`, withFold, x, ranges.Join(x.Props[0].Set, of('A', 'A', 0x9000, 0x9000)))
	many(t, `\p{A}`, api.Flags{}, x, x.Props[0].Set)
}

// TestGreat: R1, R7, texts of any length, and tables of very many folds, come to an end.
func TestGreat(t *testing.T) {
	const n = 1 << 20
	for _, text := range []string{"(", "(?:", "\\", "[", "a{", "|", "\xFF", "é", "(?<n>"} {
		for _, many := range []int{2000 / len(text), 1 << 16 / len(text), n} {
			for _, flags := range []api.Flags{{}, withFold} {
				alike(t, strings.Repeat(text, many), flags, tables())
			}
		}
	}
	var x api.Tables
	for i := range n {
		x.Folds = append(x.Folds, api.Fold{From: i + 0x8000, To: 'a' + i%20})
	}
	r, at, e := parse.Read("xz|y", withFold, x)
	if e != api.OK || shown(r) != "{78}; {7A}; seq[0 1]; {79}; alt[2 3]" {
		t.Error(shown(r), at, e)
	}
	if r, at, e := parse.Read("xza", withFold, x); e != api.ErrLong || at != 2 || len(r.Tree.Nodes) > 0 {
		t.Error(shown(r), at, e)
	}
}
