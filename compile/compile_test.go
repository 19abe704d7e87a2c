package compile_test

import (
	"slices"
	"strings"
	"testing"

	"tinder/api"
	"tinder/code"
)

// TestExamples: the chapter's examples.
func TestExamples(t *testing.T) {
	becomes(t, "a*", 0, 1, "split 1 5; mark 0; set 61; check 0; jump 0; end")
	becomes(t, "a|b", 0, 0, "split 1 3; set 61; jump 4; set 62; end")
}

// TestLeaves: P15.1, nodes without kids.
func TestLeaves(t *testing.T) {
	for pattern, want := range map[string]string{
		"": "end", "(?:)": "end", "(?:(?:)(?:))": "end",
		"a": "set 61; end", "[]": "set -; end", "[a-cx]": "set 61-63,78; end", `[^]`: "set 0-10ffff; end",
		"^": "spot start; end", "$": "spot end; end", `\b`: "spot word; end", `\B`: "spot inner; end",
	} {
		becomes(t, pattern, 0, 0, want)
	}
	becomes(t, `()\1`, 1, 0, "open 1; close 1; back 1; end")
	becomes(t, `(a)()\2\1`, 2, 0, "open 1; set 61; close 1; open 2; close 2; back 2; back 1; end")
	becomes(t, `\k<n>(?<n>a)`, 1, 0, "back 1; open 1; set 61; close 1; end")
}

// TestRows: P15.1, sequences and choices.
func TestRows(t *testing.T) {
	for pattern, want := range map[string]string{
		"ab":            "set 61; set 62; end",
		"a^b$":          "set 61; spot start; set 62; spot end; end",
		"(?:ab)(?:)c":   "set 61; set 62; set 63; end",
		"|":             "split 1 2; jump 2; end",
		"||":            "split 1 2; jump 4; split 3 4; jump 4; end",
		"a|b|":          "split 1 3; set 61; jump 6; split 4 6; set 62; jump 6; end",
		"|a":            "split 1 2; jump 3; set 61; end",
		"ab|c|de":       "split 1 4; set 61; set 62; jump 9; split 5 7; set 63; jump 9; set 64; set 65; end",
		"x(?:a|b)y":     "set 78; split 2 4; set 61; jump 5; set 62; set 79; end",
		"(?:a|b)|c":     "split 1 6; split 2 4; set 61; jump 5; set 62; jump 7; set 63; end",
		"a|(?:b|c)":     "split 1 3; set 61; jump 7; split 4 6; set 62; jump 7; set 63; end",
		"(?:a|b)(?:c|)": "split 1 3; set 61; jump 4; set 62; split 5 7; set 63; jump 7; end",
	} {
		becomes(t, pattern, 0, 0, want)
	}
	becomes(t, "(a)|((b)|c)", 3, 0, "split 1 5; open 1; set 61; close 1; jump 13; open 2; split 7 11; open 3; set 62; close 3; jump 12; set 63; close 2; end")
}

// TestRepeats: P15.1, repeats without end, each with a mark of its own, in the order in which these are used.
func TestRepeats(t *testing.T) {
	becomes(t, "a*?", 0, 1, "split 5 1; mark 0; set 61; check 0; jump 0; end")
	becomes(t, "(?:)*", 0, 1, "split 1 4; mark 0; check 0; jump 0; end")
	becomes(t, "ba*b", 0, 1, "set 62; split 2 6; mark 0; set 61; check 0; jump 1; set 62; end")
	becomes(t, "a+", 0, 1, "set 61; split 2 6; mark 0; set 61; check 0; jump 1; end")
	becomes(t, "a{2,}?", 0, 1, "set 61; set 61; split 7 3; mark 0; set 61; check 0; jump 2; end")
	becomes(t, "(?:a*b*)*", 0, 3, "split 1 14; mark 0; split 3 7; mark 1; set 61; check 1; jump 2; split 8 12; mark 2; set 62; check 2; jump 7; check 0; jump 0; end")
	becomes(t, "(?:a*?)*", 0, 2, "split 1 9; mark 0; split 7 3; mark 1; set 61; check 1; jump 2; check 0; jump 0; end")
	becomes(t, "(?:a|b)*", 0, 1, "split 1 8; mark 0; split 3 5; set 61; jump 6; set 62; check 0; jump 0; end")
	becomes(t, "a*|b*", 0, 2, "split 1 7; split 2 6; mark 0; set 61; check 0; jump 1; jump 12; split 8 12; mark 1; set 62; check 1; jump 7; end")
}

// TestGroupsInRepeats: P15.1, the groups of a repeat's round are forgotten ahead of it, from the least to the greatest.
func TestGroupsInRepeats(t *testing.T) {
	becomes(t, "(a)*", 1, 1, "split 1 8; mark 0; forget 1 1; open 1; set 61; close 1; check 0; jump 0; end")
	becomes(t, "(a)*?", 1, 1, "split 8 1; mark 0; forget 1 1; open 1; set 61; close 1; check 0; jump 0; end")
	becomes(t, "(a*)", 1, 1, "open 1; split 2 6; mark 0; set 61; check 0; jump 1; close 1; end")
	becomes(t, "(a)(?:(b)(?:(c)|d))*(e)", 4, 1, "open 1; set 61; close 1; split 4 17; mark 0; forget 2 3; open 2; set 62; close 2; split 10 14; open 3; set 63; close 3; jump 15; set 64; check 0; jump 3; open 4; set 65; close 4; end")
	becomes(t, "((a)*(b))*", 3, 2, "split 1 18; mark 0; forget 1 3; open 1; split 5 12; mark 1; forget 2 2; open 2; set 61; close 2; check 1; jump 4; open 3; set 62; close 3; close 1; check 0; jump 0; end")
	becomes(t, `(a)(?:\1)*`, 1, 1, "open 1; set 61; close 1; split 4 8; mark 0; back 1; check 0; jump 3; end")
}

// TestTries: P15.1, rounds that may be left out, one within the other, and rounds that must be, which are fresh.
func TestTries(t *testing.T) {
	becomes(t, "a?", 0, 1, "split 1 4; mark 0; set 61; check 0; end")
	becomes(t, "a??b", 0, 1, "split 4 1; mark 0; set 61; check 0; set 62; end")
	becomes(t, "a{0,3}", 0, 3, "split 1 12; mark 0; set 61; check 0; split 5 12; mark 1; set 61; check 1; split 9 12; mark 2; set 61; check 2; end")
	becomes(t, "a{1,3}?", 0, 2, "set 61; split 9 2; mark 0; set 61; check 0; split 9 6; mark 1; set 61; check 1; end")
	becomes(t, "(?:a?){0,2}", 0, 4, "split 1 14; mark 0; split 3 6; mark 1; set 61; check 1; check 0; split 8 14; mark 2; split 10 13; mark 3; set 61; check 3; check 2; end")
	becomes(t, "(a)?", 1, 1, "split 1 7; mark 0; forget 1 1; open 1; set 61; close 1; check 0; end")
	becomes(t, "(a)??(b)", 2, 1, "split 7 1; mark 0; forget 1 1; open 1; set 61; close 1; check 0; open 2; set 62; close 2; end")
	becomes(t, "(a)(?:b(c)){0,2}", 2, 2, "open 1; set 61; close 1; split 4 19; mark 0; forget 2 2; set 62; open 2; set 63; close 2; check 0; split 12 19; mark 1; forget 2 2; set 62; open 2; set 63; close 2; check 1; end")
	becomes(t, "a{3}", 0, 0, "set 61; set 61; set 61; end")
	becomes(t, "a{0}b{1}", 0, 0, "set 62; end")
	becomes(t, "(a){0}", 1, 0, "end")
	becomes(t, "(a){1}", 1, 0, "forget 1 1; open 1; set 61; close 1; end")
	becomes(t, "(a)+", 1, 1, "forget 1 1; open 1; set 61; close 1; split 5 12; mark 0; forget 1 1; open 1; set 61; close 1; check 0; jump 4; end")
	becomes(t, "(?:(a)(b)|c){2}", 2, 0, "forget 1 2; split 2 9; open 1; set 61; close 1; open 2; set 62; close 2; jump 10; set 63; forget 1 2; split 12 19; open 1; set 61; close 1; open 2; set 62; close 2; jump 20; set 63; end")
	becomes(t, "(a(b){1}){1}", 2, 0, "forget 1 2; open 1; set 61; forget 2 2; open 2; set 62; close 2; close 1; end")
}

// TestApart: P15.1, atomic parts, repeats that never go back, and looks.
func TestApart(t *testing.T) {
	becomes(t, "(?>)", 0, 0, "atomic 2; yes; end")
	becomes(t, "a(?>b|c)d", 0, 0, "set 61; atomic 7; split 3 5; set 62; jump 6; set 63; yes; set 64; end")
	becomes(t, "a++", 0, 1, "atomic 8; set 61; split 3 7; mark 0; set 61; check 0; jump 2; yes; end")
	becomes(t, "a?+", 0, 1, "atomic 6; split 2 5; mark 0; set 61; check 0; yes; end")
	becomes(t, "(?=a)b", 0, 0, "look 3; set 61; yes; set 62; end")
	becomes(t, "(?!a)b", 0, 0, "look! 3; set 61; yes; set 62; end")
	becomes(t, "(?<=a)b", 0, 0, "look 3; set< 61; yes; set 62; end")
	becomes(t, "(?<!a)b", 0, 0, "look! 3; set< 61; yes; set 62; end")
	becomes(t, "(?=(?!(?>a)))", 0, 0, "look 7; look! 6; atomic 5; set 61; yes; yes; yes; end")
	becomes(t, "(?:(?=(a)))*", 1, 1, "split 1 10; mark 0; forget 1 1; look 8; open 1; set 61; close 1; yes; check 0; jump 0; end")
}

// TestLeft: P15.1, what a look back covers is written towards the left, the last kid of a sequence first, and all else in its order.
func TestLeft(t *testing.T) {
	becomes(t, "(?<=abc)", 0, 0, "look 5; set< 63; set< 62; set< 61; yes; end")
	becomes(t, "(?<=a(?:bc)d)e", 0, 0, "look 6; set< 64; set< 63; set< 62; set< 61; yes; set 65; end")
	becomes(t, "(?<=ab|cd)", 0, 0, "look 8; split 2 5; set< 62; set< 61; jump 7; set< 64; set< 63; yes; end")
	becomes(t, `(?<!(a)\1)`, 1, 0, "look! 6; back< 1; open 1; set< 61; close 1; yes; end")
	becomes(t, `(?<=\b^a)`, 0, 0, "look 5; set< 61; spot start; spot word; yes; end")
	becomes(t, "(?<=(?:ab)*)", 0, 1, "look 8; split 2 7; mark 0; set< 62; set< 61; check 0; jump 1; yes; end")
	becomes(t, "(?<=(?:ab)+?)", 0, 1, "look 10; set< 62; set< 61; split 9 4; mark 0; set< 62; set< 61; check 0; jump 3; yes; end")
	becomes(t, "(?<=(a)b{0,2}c)", 1, 2, "look 14; set< 63; split 3 10; mark 0; set< 62; check 0; split 7 10; mark 1; set< 62; check 1; open 1; set< 61; close 1; yes; end")
	becomes(t, "(?<=a*b*)", 0, 2, "look 12; split 2 6; mark 0; set< 62; check 0; jump 1; split 7 11; mark 1; set< 61; check 1; jump 6; yes; end")
	becomes(t, "(?<=(ab){2})", 1, 0, "look 12; forget 1 1; open 1; set< 62; set< 61; close 1; forget 1 1; open 1; set< 62; set< 61; close 1; yes; end")
	becomes(t, "(?<=(?>ab))c", 0, 0, "look 6; atomic 5; set< 62; set< 61; yes; yes; set 63; end")
	becomes(t, "(?<=a(?=bc)d)e", 0, 0, "look 8; set< 64; look 6; set 62; set 63; yes; set< 61; yes; set 65; end")
	becomes(t, "(?=a(?<=bc)d)e", 0, 0, "look 8; set 61; look 6; set< 63; set< 62; yes; set 64; yes; set 65; end")
	becomes(t, "(?<!(?<=ab)cd)ef", 0, 0, "look! 8; set< 64; set< 63; look 7; set< 62; set< 61; yes; yes; set 65; set 66; end")
	becomes(t, "(?<=(?!(?<=ab)cd)ef)", 0, 0, "look 12; set< 66; set< 65; look! 11; look 8; set< 62; set< 61; yes; set 63; set 64; yes; yes; end")
}

// TestNames: P15.1, Groups are how many names there are, be what has them left out or not.
func TestNames(t *testing.T) {
	groups := ""
	for n := range 21 {
		for _, pattern := range []string{groups + "a", "(?:" + groups + "a){3}", "(?:" + groups + "a){0}"} {
			if got := plainly(t, read(t, pattern)); got.e != api.OK || got.p.Groups != n {
				t.Error(pattern, shown(got))
			}
		}
		groups += []string{"()", "(?<" + string(rune('a'+n)) + ">)"}[n%2]
	}
}

// TestFlags: P15.1, what hangs on the flags, and on no other one.
func TestFlags(t *testing.T) {
	x := read(t, `^(a)\1$`)
	plain := "program 1 0 plain\nwords 30-39,41-5a,5f,61-7a\nfolds\nspot start\nopen 1\nset 61\nclose 1\nback 1\nspot end\nend\n"
	for flags := range allFlags() {
		want := plain
		if flags.Lines {
			want = strings.Replace(want, "plain", "lines", 1)
		}
		if flags.Fold {
			want = strings.Replace(want, "\nfolds\n", "\nfolds 41>61 17f>73 212a>6b\n", 1)
			want = strings.Replace(want, "7a\n", "7a,17f,212a\n", 1)
		}
		got := alike(t, x, flags, folds('A', 'a', 0x17F, 's', 0x212A, 'k'))
		if text, e := code.Text(got.p); got.e != api.OK || e != api.OK || text != want {
			t.Errorf("%+v: %q", flags, text)
		}
	}
}

// allFlags are all that there are.
func allFlags() func(yield func(api.Flags) bool) {
	return func(yield func(api.Flags) bool) {
		for n := range 16 {
			if !yield(api.Flags{Fold: n&1 > 0, Lines: n&2 > 0, All: n&4 > 0, Sticky: n&8 > 0}) {
				return
			}
		}
	}
}

// TestTables: P15.1, wrong tables are none, whatever is wrong of them; right ones have folds with the flag Fold alone.
func TestTables(t *testing.T) {
	props := func(sets ...[]api.Range) api.Tables {
		tables := folds(0x17F, 's')
		for i, set := range sets {
			tables.Props = append(tables.Props, api.Prop{Name: string(rune('A' + i)), Set: set})
		}
		return tables
	}
	wide := make([]api.Range, 2001)
	for i := range wide {
		wide[i] = api.Range{Lo: 3 * i, Hi: 3 * i}
	}
	twice := props(nil, nil)
	twice.Props[1].Name = "A"
	right := []api.Tables{{}, folds(0x17F, 's'), folds(0, 1), folds(1, 0, 2, 0, api.MaxPoint, 0), props(nil), props([]api.Range{{Lo: 1, Hi: 2}}, wide[:2000])}
	wrong := []api.Tables{folds(1, 1), folds(-1, 1), folds(1, api.MaxPoint+1), folds(1, 2, 2, 3), folds(2, 0, 1, 0), folds(1, 0, 1, 3), props(wide), props([]api.Range{{Lo: 2, Hi: 1}}), twice, {Folds: folds(0x17F, 's').Folds, Props: []api.Prop{{}}}}
	for i, tables := range slices.Concat(right, wrong) {
		for flags := range allFlags() {
			got := alike(t, a(), flags, tables)
			want := tables.Folds
			if i >= len(right) || !flags.Fold {
				want = nil
			}
			if got.e != api.OK || !slices.Equal(got.p.Folds, want) {
				t.Error(i, flags, shown(got))
			}
			folded := slices.ContainsFunc(got.p.Words, func(r api.Range) bool { return r.Lo == 0x17F })
			if folded != slices.ContainsFunc(want, func(f api.Fold) bool { return f.From == 0x17F }) {
				t.Error(i, flags, shown(got))
			}
		}
	}
}
