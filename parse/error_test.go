package parse_test

import (
	"strings"
	"testing"

	"tinder/api"
)

// TestCut: P9.1, each row of the table, cut at every place: what is told of the first signs alone, of the first two, and so on.
func TestCut(t *testing.T) {
	const (
		ok  = api.OK
		syn = api.ErrSyntax
		nam = api.ErrName
	)
	for text, want := range map[string][]api.Errno{
		"(?=a)":        {syn, syn, syn, syn, ok},
		"(?!a)":        {syn, syn, syn, syn, ok},
		"(?<=a)":       {syn, syn, nam, syn, syn, ok},
		"(?<!a)":       {syn, syn, nam, syn, syn, ok},
		"(?:a)":        {syn, syn, syn, syn, ok},
		"(?>a)":        {syn, syn, syn, syn, ok},
		"(?<na>a)":     {syn, syn, nam, nam, nam, syn, syn, ok},
		"(a)":          {syn, syn, ok},
		"[^a]":         {syn, syn, syn, ok},
		`[\n]`:         {syn, syn, syn, ok},
		`\d`:           {syn, ok},
		`\p{Lu}`:       {syn, syn, syn, syn, syn, ok},
		`\k<na>`:       {syn, nam, nam, nam, nam, ok},
		`\12`:          {syn, ok, ok},
		`\b`:           {syn, ok},
		`\cA`:          {syn, syn, ok},
		`\0`:           {syn, ok},
		`\x41`:         {syn, syn, syn, ok},
		`\u{41}`:       {syn, syn, syn, syn, syn, ok},
		`\u0041`:       {syn, syn, syn, syn, syn, ok},
		`\uD83D\uDE00`: {syn, syn, syn, syn, syn, ok, syn, syn, syn, syn, syn, ok},
	} {
		for i, e := range want {
			cut := text[:i+1]
			at := 0
			// Ahead of the second backslash a half stands for itself.
			if i > 5 && strings.HasPrefix(cut, `\uD83D`) && e != ok {
				at = 6
			}
			failsAt(t, cut, api.Flags{}, e, at)
			if e != ok {
				failsAt(t, "é*"+cut, withFold, e, at+2)
			}
		}
	}
	for i := 2; i < len("a{12,34}"); i++ {
		fails(t, "a{12,34}"[:i], api.ErrSyntax, 1)
	}
}

// TestParentheses: P9.1, a ) too many, a ) missing, and a ? that nothing may follow.
func TestParentheses(t *testing.T) {
	fails(t, ")", api.ErrSyntax, 0)
	fails(t, "a)", api.ErrSyntax, 1)
	fails(t, "a|)", api.ErrSyntax, 2)
	fails(t, "(a))", api.ErrSyntax, 3)
	fails(t, "(?:a)|b)c(", api.ErrSyntax, 7)
	fails(t, ")(", api.ErrSyntax, 0)
	fails(t, "))", api.ErrSyntax, 0)
	fails(t, ")*", api.ErrSyntax, 0)
	fails(t, "(", api.ErrSyntax, 0)
	fails(t, "((", api.ErrSyntax, 1)
	fails(t, "(()", api.ErrSyntax, 0)
	fails(t, "b(a(c)", api.ErrSyntax, 1)
	fails(t, "b(a(c", api.ErrSyntax, 3)
	fails(t, "(a|b", api.ErrSyntax, 0)
	fails(t, "(a|", api.ErrSyntax, 0)
	fails(t, "é(?:é(?=é(?<n>é", api.ErrSyntax, 9)
	for c := range rune(128) {
		if sign := string(c); c == 0 || !strings.Contains("=!<:>", sign) {
			fails(t, "(?"+sign+")", api.ErrSyntax, 0)
			fails(t, "a(?"+sign, api.ErrSyntax, 1)
		}
	}
	fails(t, "(?é)", api.ErrSyntax, 0)
	fails(t, "(??=a)", api.ErrSyntax, 0)
	fails(t, "(?i:a)", api.ErrSyntax, 0)
	fails(t, "(?#a)", api.ErrSyntax, 0)
	fails(t, "(?P<n>a)", api.ErrSyntax, 0)
	fails(t, "(? =a)", api.ErrSyntax, 0)
	reads(t, "( ?=)", `{20}; repeat 0 1 greedy[0]; {3D}; seq[1 2]; group 1[3]; "" at 0`)
}

// TestFirst: P9.1, where several errors apply, the one that is met first.
func TestFirst(t *testing.T) {
	fails(t, "*)", api.ErrSyntax, 0)
	fails(t, "a)*", api.ErrSyntax, 1)
	fails(t, "(a*{)", api.ErrSyntax, 3)
	// Of one (: its name ahead of its number, that ahead of what stands within, that ahead of its ).
	groups := strings.Repeat("()", 20)
	fails(t, groups+"(?<1>", api.ErrName, 40)
	fails(t, groups+"(?x", api.ErrSyntax, 40)
	fails(t, groups+"(?<n>*", api.ErrGroup, 40)
	fails(t, groups+"(*", api.ErrGroup, 40)
	fails(t, groups+"(?:*", api.ErrSyntax, 43)
	fails(t, groups+"(?:", api.ErrSyntax, 40)
	fails(t, "(*", api.ErrSyntax, 1)
	fails(t, "(?<n>b{2,1}", api.ErrOrder, 6)
	fails(t, "((?<1>", api.ErrName, 1)
	fails(t, "(?:(?=[b-a]", api.ErrOrder, 6)
	fails(t, `(\q`, api.ErrSyntax, 1)
	fails(t, `(\k`, api.ErrName, 1)
	// One term behind another one.
	fails(t, `\p{No}[b-a]`, api.ErrName, 0)
	fails(t, `[b-a]\p{No}`, api.ErrOrder, 0)
	fails(t, `a{1001}[b-a]*)`, api.ErrSize, 1)
	fails(t, `\k<`+`(?<1>`, api.ErrName, 0)
	fails(t, `(?<n>a)\k<1>(`, api.ErrName, 7)
	// A set that has too many ranges, ahead of what stands behind it.
	x := api.Tables{Props: []api.Prop{{Name: "A", Set: apart(2000)}}}
	for text, e := range map[string]api.Errno{`\P{A}{`: api.ErrLong, `\P{A}{2,1}`: api.ErrLong, `[^\p{A}]{`: api.ErrLong, `\P{A}**`: api.ErrLong, `\P{A})`: api.ErrLong, `\p{A}{`: api.ErrSyntax, `\p{A}{2,1}`: api.ErrOrder} {
		want := 0
		if e != api.ErrLong {
			want = 5
		}
		if _, at, got := alike(t, text, api.Flags{}, x); got != e || at != want {
			t.Error(text, at, got)
		}
		if _, at, got := alike(t, "(a|"+text, api.Flags{}, x); got != e || at != want+3 {
			t.Error(text, at, got)
		}
	}
	if _, at, e := alike(t, `*\P{A}`, api.Flags{}, x); e != api.ErrSyntax || at != 0 {
		t.Error(at, e)
	}
	// How deep it is, is asked last.
	deep := strings.Repeat("(?>", 60) + strings.Repeat(")", 60)
	fails(t, deep+"*)", api.ErrSyntax, 241)
	fails(t, deep+"**", api.ErrSyntax, 241)
	fails(t, deep+"{2,1}", api.ErrOrder, 240)
	fails(t, deep+`\p{No}`, api.ErrName, 240)
	fails(t, deep[:239], api.ErrSyntax, 0)
	failsAt(t, deep, withFold, api.ErrDepth, 0)
	failsAt(t, "ab"+deep, withFold, api.ErrDepth, 0)
}

// TestTexts: P9.1, texts that are no texts, or too long, whatever else is wrong with them.
func TestTexts(t *testing.T) {
	for text, at := range map[string]int{
		"\xFF": 0, "a\xFF": 1, "é\xFF": 2, "\u20AC\U0001F600\x80": 7, "é\xC3": 3, "\xED\xA0\x80": 1, "*\xFF": 1, ")(\xC3\x28": 3, "a\xF4\x90\x80\x80": 2, "é\xE2\x82": 4, "(?<1>[b-a]\xFE": 10, "\xC0\x80": 0,
	} {
		for _, flags := range allFlags() {
			failsAt(t, text, flags, api.ErrShape, at)
		}
	}
	failsAt(t, strings.Repeat("a", 3000)+"\xFF", withFold, api.ErrShape, 3000)
	failsAt(t, strings.Repeat("*", 2001), withFold, api.ErrLong, 0)
	failsAt(t, "a"+strings.Repeat("(", 2000), withFold, api.ErrLong, 0)
	failsAt(t, "\xFF"+strings.Repeat("a", 1<<16-1), withFold, api.ErrShape, 0)
	failsAt(t, "\xFF"+strings.Repeat("a", 1<<16), withFold, api.ErrLong, 0)
	failsAt(t, strings.Repeat("a", 1<<16), withFold, api.ErrLong, 0)
	failsAt(t, strings.Repeat("a", 1<<22), withFold, api.ErrLong, 0)
}
