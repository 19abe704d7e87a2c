package parse_test

import (
	"strconv"
	"strings"
	"testing"

	"tinder/api"
)

// The dot's sets, without the flag All and with it.
const (
	dotText = "{0-9,B-C,E-2027,202A-10FFFF}"
	allText = "{0-10FFFF}"
)

// TestExample: the chapter's example.
func TestExample(t *testing.T) {
	reads(t, "a|b*", "{61}; {62}; repeat 0 -1 greedy[1]; alt[0 2]")
	fails(t, "(a", api.ErrSyntax, 0)
	fails(t, "a{2,1}", api.ErrOrder, 1)
	reads(t, `(?<n>x)\k<n>`, `{78}; group 1[0]; back; seq[1 2]; "n" at 0; 2 refers to 0"n" at 7`)
}

// TestChoices: P9.1, choices and sequences, empty ones too.
func TestChoices(t *testing.T) {
	reads(t, "", "empty")
	reads(t, "a", "{61}")
	reads(t, "ab", "{61}; {62}; seq[0 1]")
	reads(t, "abc", "{61}; {62}; {63}; seq[0 1 2]")
	reads(t, "|", "empty; empty; alt[0 1]")
	reads(t, "||", "empty; empty; empty; alt[0 1 2]")
	reads(t, "|a", "empty; {61}; alt[0 1]")
	reads(t, "a|", "{61}; empty; alt[0 1]")
	reads(t, "a||b", "{61}; empty; {62}; alt[0 1 2]")
	reads(t, "a|b|c", "{61}; {62}; {63}; alt[0 1 2]")
	reads(t, "ab|c", "{61}; {62}; seq[0 1]; {63}; alt[2 3]")
	reads(t, "a|bc", "{61}; {62}; {63}; seq[1 2]; alt[0 3]")
	reads(t, "(?:)", "empty")
	reads(t, "(?:a)", "{61}")
	reads(t, "(?:(?:a))", "{61}")
	reads(t, "(?:)(?:)", "empty; empty; seq[0 1]")
	reads(t, "(?:ab)c", "{61}; {62}; seq[0 1]; {63}; seq[2 3]")
	reads(t, "a(?:bc)", "{61}; {62}; {63}; seq[1 2]; seq[0 3]")
	reads(t, "(?:ab)", "{61}; {62}; seq[0 1]")
	reads(t, "(?:a|b)|c", "{61}; {62}; alt[0 1]; {63}; alt[2 3]")
	reads(t, "a|(?:b|c)", "{61}; {62}; {63}; alt[1 2]; alt[0 3]")
	reads(t, "(?:a|b)c", "{61}; {62}; alt[0 1]; {63}; seq[2 3]")
	reads(t, "(|)", `empty; empty; alt[0 1]; group 1[2]; "" at 0`)
	reads(t, "(a||b)", `{61}; empty; {62}; alt[0 1 2]; group 1[3]; "" at 0`)
}

// TestSpots: P9.1, what stands for a place.
func TestSpots(t *testing.T) {
	reads(t, "^", "start")
	reads(t, "$", "end")
	reads(t, `\b`, "word")
	reads(t, `\B`, "inner")
	reads(t, `^$\b\B$^`, "start; end; word; inner; end; start; seq[0 1 2 3 4 5]")
	reads(t, `\bb\BB`, "word; {62}; inner; {42}; seq[0 1 2 3]")
	reads(t, "^|$", "start; end; alt[0 1]")
}

// TestHeads: P9.1, each head that stands behind a (.
func TestHeads(t *testing.T) {
	reads(t, "(?=a)", "{61}; ahead[0]")
	reads(t, "(?!a)", "{61}; not ahead[0]")
	reads(t, "(?<=a)", "{61}; behind[0]")
	reads(t, "(?<!a)", "{61}; not behind[0]")
	reads(t, "(?:a)", "{61}")
	reads(t, "(?>a)", "{61}; atomic[0]")
	reads(t, "(?<n>a)", `{61}; group 1[0]; "n" at 0`)
	reads(t, "(a)", `{61}; group 1[0]; "" at 0`)
	for head, want := range map[string]string{"(?=": "ahead", "(?!": "not ahead", "(?<=": "behind", "(?<!": "not behind", "(?>": "atomic"} {
		reads(t, head+")", "empty; "+want+"[0]")
		reads(t, head+"a|b)", "{61}; {62}; alt[0 1]; "+want+"[2]")
		reads(t, head+"ab)c", "{61}; {62}; seq[0 1]; "+want+"[2]; {63}; seq[3 4]")
		reads(t, head+head+"a))", "{61}; "+want+"[0]; "+want+"[1]")
	}
	reads(t, "()", `empty; group 1[0]; "" at 0`)
	reads(t, "(a|b)", `{61}; {62}; alt[0 1]; group 1[2]; "" at 0`)
	reads(t, "(^)", `start; group 1[0]; "" at 0`)
	// Signs of heads mean nothing elsewhere.
	reads(t, "=!:<>", "{3D}; {21}; {3A}; {3C}; {3E}; seq[0 1 2 3 4]")
	reads(t, "(=)", `{3D}; group 1[0]; "" at 0`)
	reads(t, "(<=!:>)", `{3C}; {3D}; {21}; {3A}; {3E}; seq[0 1 2 3 4]; group 1[5]; "" at 0`)
	reads(t, "(?==)", "{3D}; ahead[0]")
	reads(t, "(?<=>)", "{3E}; behind[0]")
	reads(t, "(?<!>)", "{3E}; not behind[0]")
	reads(t, "(?>>)", "{3E}; atomic[0]")
	reads(t, "(?::)", "{3A}")
	reads(t, "(?<n>>)", `{3E}; group 1[0]; "n" at 0`)
}

// TestGroups: P9.1, groups are numbered as their ( stand, by place and name, be it once or twice.
func TestGroups(t *testing.T) {
	reads(t, "(a)(b)", `{61}; group 1[0]; {62}; group 2[2]; seq[1 3]; "" at 0; "" at 3`)
	reads(t, "((a)(b))(c)", `{61}; group 2[0]; {62}; group 3[2]; seq[1 3]; group 1[4]; {63}; group 4[6]; seq[5 7]; "" at 0; "" at 1; "" at 4; "" at 8`)
	reads(t, "(?:é)(?<x>(?<y>))()", `{E9}; empty; group 2[1]; group 1[2]; empty; group 3[4]; seq[0 3 5]; "x" at 5; "y" at 10; "" at 17`)
	reads(t, "(?=(a))(?<!(b))(?>(c))(d)*", `{61}; group 1[0]; ahead[1]; {62}; group 2[3]; not behind[4]; {63}; group 3[6]; atomic[7]; {64}; group 4[9]; repeat 0 -1 greedy[10]; seq[2 5 8 11]; "" at 3; "" at 11; "" at 18; "" at 22`)
	reads(t, "(?<n>a)|(?<n>b)", `{61}; group 1[0]; {62}; group 2[2]; alt[1 3]; "n" at 0; "n" at 8`)
	reads(t, "(?<n>(?<n>))", `empty; group 2[0]; group 1[1]; "n" at 0; "n" at 5`)
	fails(t, strings.Repeat("()", 21), api.ErrGroup, 40)
	fails(t, strings.Repeat("(", 21), api.ErrGroup, 20)
	fails(t, strings.Repeat("(?<n>", 21), api.ErrGroup, 100)
	fails(t, strings.Repeat("()", 20)+"(?:)(?=)|(?<n>", api.ErrGroup, 49)
	readsWith(t, strings.Repeat("(", 20)+strings.Repeat(")", 20), withFold, tables(), manyGroups(20))
	// What is no group does not count.
	reads(t, strings.Repeat("(?:(?=(?>(?<!", 10)+strings.Repeat(")", 40), "empty"+below(10))
}

// manyGroups are groups one in the other.
func manyGroups(n int) string {
	l := []string{"empty"}
	for i := range n {
		l = append(l, "group "+strconv.Itoa(n-i)+"["+strconv.Itoa(i)+"]")
	}
	for i := range n {
		l = append(l, `"" at `+strconv.Itoa(i))
	}
	return strings.Join(l, "; ")
}

// below is what stands around an empty pattern: so often a look behind, an atomic part, a look ahead.
func below(n int) string {
	var b strings.Builder
	for i := range n {
		for k, kind := range []string{"not behind", "atomic", "ahead"} {
			b.WriteString("; " + kind + "[" + strconv.Itoa(3*i+k) + "]")
		}
	}
	return b.String()
}

// TestNames: P9.1, names of groups, and of what refers to them.
func TestNames(t *testing.T) {
	for _, name := range []string{"a", "Z", "_", "$", "a0", "$$", "n9_$", name40} {
		reads(t, "(?<"+name+">)", `empty; group 1[0]; "`+name+`" at 0`)
		reads(t, `\k<`+name+">", `back; 0 refers to 0"`+name+`" at 0`)
	}
	for _, name := range []string{"", "0", "9a", "-", "a-", "é", "aé", " a", "a ", "a<", "<", "\\u0061", name40 + "a", "a\x00"} {
		fails(t, "(?<"+name+">)", api.ErrName, 0)
		fails(t, `\k<`+name+">", api.ErrName, 0)
	}
	for c := range rune(128) {
		sign := string(c)
		letter := c >= 'A' && c <= 'Z' || c >= 'a' && c <= 'z' || c == '_' || c == '$'
		if letter {
			reads(t, `\k<`+sign+">", `back; 0 refers to 0"`+sign+`" at 0`)
			reads(t, "(?<"+sign+">)", `empty; group 1[0]; "`+sign+`" at 0`)
		} else {
			fails(t, `\k<`+sign+">", api.ErrName, 0)
		}
		if !letter && c != '=' && c != '!' {
			fails(t, "(?<"+sign+">)", api.ErrName, 0)
		}
		if letter || c >= '0' && c <= '9' {
			reads(t, `\k<a`+sign+">", `back; 0 refers to 0"a`+sign+`" at 0`)
		} else if c != '>' {
			fails(t, `\k<a`+sign+">", api.ErrName, 0)
		}
	}
	reads(t, `\k<a>>`, `back; {3E}; seq[0 1]; 0 refers to 0"a" at 0`)
	fails(t, `\k`, api.ErrName, 0)
	fails(t, `\ka`, api.ErrName, 0)
	fails(t, `\k{a}`, api.ErrName, 0)
	fails(t, `\k(?<a>)`, api.ErrName, 0)
	fails(t, `\K<a>`, api.ErrSyntax, 0)
}

// TestRefs: P9.1, what refers to groups, in order, whatever groups there are.
func TestRefs(t *testing.T) {
	reads(t, `\1`, `back; 0 refers to 1"" at 0`)
	reads(t, `\9`, `back; 0 refers to 9"" at 0`)
	reads(t, `\10`, `back; 0 refers to 10"" at 0`)
	reads(t, `\1234567`, `back; 0 refers to 1234567"" at 0`)
	reads(t, `\1073741823`, `back; 0 refers to 1073741823"" at 0`)
	reads(t, `\1073741824`, `back; 0 refers to 1073741824"" at 0`)
	reads(t, `\1073741825`, `back; 0 refers to 1073741824"" at 0`)
	reads(t, `\18446744073709551617`, `back; 0 refers to 1073741824"" at 0`)
	reads(t, `\1`+strings.Repeat("0", 1990), `back; 0 refers to 1073741824"" at 0`)
	reads(t, `\1\2`, `back; back; seq[0 1]; 0 refers to 1"" at 0; 1 refers to 2"" at 2`)
	reads(t, `\1a`, `back; {61}; seq[0 1]; 0 refers to 1"" at 0`)
	reads(t, `\1é\2`, `back; {E9}; back; seq[0 1 2]; 0 refers to 1"" at 0; 2 refers to 2"" at 3`)
	reads(t, `(\2(?<x>\k<x>)\1)\k<y>*`, `back; back; group 2[1]; back; seq[0 2 3]; group 1[4]; back; repeat 0 -1 greedy[6]; seq[5 7]; "" at 0; "x" at 3; 0 refers to 2"" at 1; 1 refers to 0"x" at 8; 3 refers to 1"" at 14; 6 refers to 0"y" at 17`)
	reads(t, `(?<x>a)\k<x>(b)\2\99`, `{61}; group 1[0]; back; {62}; group 2[3]; back; back; seq[1 2 4 5 6]; "x" at 0; "" at 12; 2 refers to 0"x" at 7; 5 refers to 2"" at 15; 6 refers to 99"" at 17`)
	for _, text := range []string{`\00`, `\01`, `\09`, `\012`, `\0` + strings.Repeat("9", 1900)} {
		fails(t, text, api.ErrSyntax, 0)
	}
}

// TestSigns: P9.1, each code point alone: what it begins, or that it stands for itself.
func TestSigns(t *testing.T) {
	for c := range rune(0x900) {
		text := string(c)
		switch {
		case strings.Contains("^$.|", text) && c > 0:
			continue
		case strings.Contains(`*+?()[]{}\`, text) && c > 0:
			fails(t, text, api.ErrSyntax, 0)
		default:
			readsWith(t, text, api.Flags{}, tables(), setText(of(int(c), int(c))))
		}
	}
	for _, c := range []rune{0x2028, 0xD7FF, 0xE000, 0xFFFD, 0xFFFF, 0x10000, 0x1F600, 0x10FFFF} {
		reads(t, string(c), setText(of(int(c), int(c))))
	}
	readsWith(t, ".", api.Flags{}, tables(), dotText)
}

// TestEscapes: P9.1, escapes of one code point, and of sets.
func TestEscapes(t *testing.T) {
	for text, want := range map[string]string{
		`\f`: "{C}", `\n`: "{A}", `\r`: "{D}", `\t`: "{9}", `\v`: "{B}", `\0`: "{0}", `\cA`: "{1}", `\cz`: "{1A}", `\x41`: "{41}", `\u0041`: "{41}", `\u{41}`: "{41}", `\u{10FFFF}`: "{10FFFF}",
		`\uD83D\uDE00`: "{1F600}", `\uD83D`: "{D83D}", `\uDE00`: "{DE00}", `\/`: "{2F}", `\\`: "{5C}", `\.`: "{2E}", `\|`: "{7C}", `\]`: "{5D}", `\}`: "{7D}", `\^`: "{5E}", `\$`: "{24}", `\(`: "{28}", `\)`: "{29}",
		`\[`: "{5B}", `\{`: "{7B}", `\*`: "{2A}", `\+`: "{2B}", `\?`: "{3F}",
		`\d`: "{30-39}", `\D`: "{0-2F,3A-10FFFF}", `\s`: "{9-D,20,A0,1680,2000-200A,2028-2029,202F,205F,3000,FEFF}", `\w`: "{30-39,41-5A,5F,61-7A}",
	} {
		reads(t, text, want)
		reads(t, text+"x", want+"; {78}; seq[0 1]")
	}
	reads(t, `\W`, "{0-2F,3A-40,5B-5E,60,7B-10FFFF}")
	reads(t, `\uD83D\u0041`, "{D83D}; {41}; seq[0 1]")
	reads(t, `\u00411`, "{41}; {31}; seq[0 1]")
	reads(t, `\d1`, "{30-39}; {31}; seq[0 1]")
	plain := api.Flags{}
	readsWith(t, `\p{Lu}`, plain, tables(), "{41-5A}")
	readsWith(t, `\P{Lu}`, plain, tables(), "{0-40,5B-10FFFF}")
	readsWith(t, `\p{None}`, plain, tables(), "{}")
	readsWith(t, `\p{Two}`, plain, tables(), "{6B,1F600}")
	// What stands behind a backslash in brackets alone, or nowhere.
	for c := range rune(128) {
		sign := string(c)
		if c != 0 && strings.Contains(`bBdDsSwWk123456789fnrtv0^$\.*+?()[]{}|/`, sign) {
			continue
		}
		fails(t, `\`+sign, api.ErrSyntax, 0)
		fails(t, `\`+sign+`<a>`, api.ErrSyntax, 0)
	}
	for _, text := range []string{`\é`, `\-`, `\a`, `\c`, `\c1`, `\x`, `\x4`, `\xg1`, `\u`, `\u004`, `\u{`, `\u{}`, `\u{110000}`, `\u{41`, `\p`, `\p{`, `\p{}`, `\pL`, `\p{Lu`, `\P`, `\P{L-}`} {
		fails(t, text, api.ErrSyntax, 0)
	}
	fails(t, `\p{No}`, api.ErrName, 0)
	fails(t, `\P{lu}`, api.ErrName, 0)
}

// TestBrackets: P9.1, what stands in brackets, with no sign of it read elsewhere.
func TestBrackets(t *testing.T) {
	reads(t, "[]", "{}")
	reads(t, "[^]", allText)
	reads(t, "[c]", "{63}")
	reads(t, "[^c]", "{0-62,64-10FFFF}")
	reads(t, "[c-e]f", "{63-65}; {66}; seq[0 1]")
	reads(t, "[|][*](?:[)])", "{7C}; {2A}; {29}; seq[0 1 2]")
	reads(t, `[\b]\b`, "{8}; word; seq[0 1]")
	reads(t, "[(?<]", "{28,3C,3F}")
	reads(t, "[[]", "{5B}")
	reads(t, `[\]]`, "{5D}")
	fails(t, "[c", api.ErrSyntax, 0)
	fails(t, "[", api.ErrSyntax, 0)
	fails(t, "[]]", api.ErrSyntax, 2)
	fails(t, `[\q]`, api.ErrSyntax, 0)
	fails(t, `[\k<a>]`, api.ErrSyntax, 0)
	fails(t, `[\1]`, api.ErrSyntax, 0)
	fails(t, `[\d-z]`, api.ErrSyntax, 0)
	fails(t, "ab[z-a]", api.ErrOrder, 2)
	fails(t, `ab[\p{No}]`, api.ErrName, 2)
}

// TestFlags: P9.1, the dot with the flag All and without, and what is closed with the flag Fold: with folds of tables and without.
func TestFlags(t *testing.T) {
	for _, flags := range allFlags() {
		want := dotText
		if flags.All {
			want = allText
		}
		for _, x := range append(wrongTables(), tables(), api.Tables{}) {
			readsWith(t, ".", flags, x, want)
			readsWith(t, ".*", flags, x, want+"; repeat 0 -1 greedy[0]")
		}
		for text, sets := range map[string][2]string{
			"k": {"{6B}", "{4B,6B,212A}"}, "K": {"{4B}", "{4B,6B,212A}"}, "\u212A": {"{212A}", "{4B,6B,212A}"}, `\x6b`: {"{6B}", "{4B,6B,212A}"}, `\u{212a}`: {"{212A}", "{4B,6B,212A}"}, `\u004B`: {"{4B}", "{4B,6B,212A}"},
			"B": {"{42}", "{41-42,61}"}, "c": {"{63}", "{63}"}, `\n`: {"{A}", "{A,6E}"}, "n": {"{6E}", "{A,6E}"}, "\n": {"{A}", "{A,6E}"}, "0": {"{30}", "{30,FF10}"}, `\0`: {"{0}", "{0}"}, `\cJ`: {"{A}", "{A,6E}"},
			`\d`: {"{30-39}", "{30-39,FF10}"}, `\p{Two}`: {"{6B,1F600}", "{4B,6B,212A,1F600}"}, "[k]": {"{6B}", "{4B,6B,212A}"}, "[^k]": {"{0-6A,6C-10FFFF}", "{0-4A,4C-6A,6C-2129,212B-10FFFF}"},
		} {
			want := sets[0]
			if flags.Fold {
				want = sets[1]
			}
			readsWith(t, text, flags, tables(), want)
		}
		for _, x := range append(wrongTables(), api.Tables{}, api.Tables{Folds: []api.Fold{}, Props: []api.Prop{}}) {
			readsWith(t, `kK\n\d[k]`, flags, x, "{6B}; {4B}; {A}; {30-39}; {6B}; seq[0 1 2 3 4]")
			if _, at, e := alike(t, `k\p{Lu}`, flags, x); e != api.ErrName || at != 1 {
				t.Error(flags, e, at)
			}
		}
	}
}
