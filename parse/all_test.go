package parse_test

import (
	"math/rand"
	"strings"
	"testing"

	"tinder/api"
)

// each goes through all texts of up to so many pieces, the empty one too.
func each(pieces []string, most int, do func(text string)) {
	do("")
	if most == 0 {
		return
	}
	for _, piece := range pieces {
		each(pieces, most-1, func(text string) {
			do(piece + text)
		})
	}
}

// TestAllTexts: P9.1, all short texts of some signs, held against the chapter's words.
func TestAllTexts(t *testing.T) {
	for name, x := range map[string]struct {
		pieces []string
		most   int
		ahead  string
	}{
		"signs":       {strings.Split(`^$\.*+?()[]{}|a1,:=!<>kbdBp-é0`, ""), 3, ""},
		"syntax":      {strings.Split(`\*?()[]{|a1^`, ""), 4, ""},
		"choices":     {strings.Split("(|)a*", ""), 7, ""},
		"parentheses": {[]string{"(", "(?:", "(?=", "(?<n>", "(?>", ")", "|", "é*"}, 5, ""},
		"groups":      {strings.Split("()", ""), 12, ""},
		"counts":      {[]string{"{", "}", ",", "1", "2", "1001", "?", "a"}, 5, "a"},
		"braces":      {strings.Split("{},0?+", ""), 5, "(?:b){1"},
		"repeats":     {[]string{"*", "+", "?", "{0,1}", "{2}", "{3,}", "^", "."}, 5, ""},
		"heads":       {strings.Split("<=!:>a1)", ""), 5, "(?"},
		"names":       {strings.Split(">a$0)-", ""), 5, "(?<a"},
		"escapes":     {strings.Split(`k<a>1b0pdu{}\`, ""), 4, `\`},
		"references":  {strings.Split(`<a>1)`, ""), 6, `(\k`},
		"numbers":     {strings.Split(`01\9*)`, ""), 5, `(\`},
		"brackets":    {strings.Split(`^[]\-ab*`, ""), 5, "["},
	} {
		t.Run(name, func(t *testing.T) {
			t.Parallel()
			all := allFlags()
			many := 0
			each(x.pieces, x.most, func(text string) {
				many++
				alike(t, x.ahead+text, all[many%len(all)], tables())
			})
		})
	}
}

// someTerm is a term that is right, but for references to no group; groups are how many there may still be.
func someTerm(r *rand.Rand, deep int, groups *int) string {
	if deep > 0 && r.Intn(3) == 0 {
		heads := []string{"(?=", "(?!", "(?<=", "(?<!", "(?:", "(?>", "(?:", "(?>"}
		if *groups > 2 {
			heads = append(heads, "(", "(", "(?<n>", "(?<"+name40+">")
		}
		head := heads[r.Intn(len(heads))]
		if head == "(" || strings.HasSuffix(head, ">") && head != "(?>" {
			*groups--
		}
		return head + someChoice(r, deep-1, groups) + ")"
	}
	l := []string{"a", "k", "K", "é", "\U0001F600", "-", ",", "=", "<", "1", ".", "^", "$", `\b`, `\B`, `\d`, `\W`, `\p{Lu}`, `\P{Two}`, `\p{None}`, "[a-c]", "[^k]", "[]", `[\]\-|(]`, `\1`, `\20`, `\k<n>`, `\k<x9>`, `\n`, `\0`, `\u{41}`, `\x4b`, `\uD83D\uDE00`, `\*`, "\n"}
	return l[r.Intn(len(l))]
}

func someChoice(r *rand.Rand, deep int, groups *int) string {
	signs := []string{"*", "+", "?", "{0}", "{2}", "{1,}", "{0,3}", "{1000}"}
	var b strings.Builder
	for range r.Intn(6) {
		if r.Intn(5) == 0 {
			b.WriteString("|")
		}
		term := someTerm(r, deep, groups)
		b.WriteString(term)
		if strings.Contains(`^$\b\B`, term) || strings.HasPrefix(term, "(?=") || strings.HasPrefix(term, "(?!") || strings.HasPrefix(term, "(?<=") || strings.HasPrefix(term, "(?<!") {
			continue
		}
		if r.Intn(3) == 0 {
			b.WriteString(signs[r.Intn(len(signs))] + []string{"", "", "?", "+"}[r.Intn(4)])
		}
	}
	return b.String()
}

// somePattern is a pattern that is right.
func somePattern(r *rand.Rand) string {
	groups := 20
	return someChoice(r, r.Intn(6), &groups)
}

// spoilt is a text, one of its signs changed, left out, put twice, or one put in.
func spoilt(r *rand.Rand, text string) string {
	row := []rune(text)
	if len(row) == 0 {
		return ")"
	}
	signs := []rune(`^$\.*+?()[]{}|a1,:=!<>kbd-é0`)
	at := r.Intn(len(row))
	sign := string(signs[r.Intn(len(signs))])
	return string(row[:at]) + []string{sign, "", sign + string(row[at]), string(row[at]) + string(row[at])}[r.Intn(4)] + string(row[at+1:])
}

// TestSomeTexts: P9.1, patterns of all sorts of terms, and the same with faults, held against the chapter's words.
func TestSomeTexts(t *testing.T) {
	r := rand.New(rand.NewSource(9))
	all := append(wrongTables(), tables(), tables(), tables(), api.Tables{})
	right, wrong := 0, map[api.Errno]int{}
	for range 15000 {
		text, x, flags := somePattern(r), all[r.Intn(len(all))], allFlags()[r.Intn(16)]
		if _, _, e := alike(t, text, flags, x); e == api.OK {
			right++
		}
		for range 1 + r.Intn(2) {
			text = spoilt(r, text)
		}
		_, _, e := alike(t, text, flags, x)
		wrong[e]++
	}
	if right < 9000 || wrong[api.ErrSyntax] < 3000 || wrong[api.ErrName] < 100 || wrong[api.OK] < 1000 {
		t.Error(right, wrong)
	}
}

// TestPieces: P9.1, pieces of patterns, in any order.
func TestPieces(t *testing.T) {
	r := rand.New(rand.NewSource(91))
	pieces := []string{
		"(", ")", "|", "(?:", "(?=", "(?!", "(?<=", "(?<!", "(?>", "(?<n>", "(?<", "(?", "a", "k", "é", "^", "$", ".", `\b`, `\B`, `\d`, `\p{Lu}`, `\p{`, `\k<n>`, `\k`, `\1`, `\`, "[", "]", "[a-z]", "[^", "*", "+", "?", "{", "}", "{1}", "{1,", "{2,1}", "{1001}", ",", "1", ")", ")", ")",
	}
	for range 40000 {
		var b strings.Builder
		for range r.Intn(9) {
			b.WriteString(pieces[r.Intn(len(pieces))])
		}
		alike(t, b.String(), allFlags()[r.Intn(16)], tables())
	}
}
