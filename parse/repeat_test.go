package parse_test

import (
	"strconv"
	"strings"
	"testing"

	"tinder/api"
)

// What may be repeated, each one node deep, and what may not.
var (
	mayRepeat = []string{"a", ".", "[a]", `\d`, `\n`, `\u{41}`, `\/`, "(a)", "(?<n>a)", "(?:a)", "(?>a)", `\k<n>`, `\1`, "(?:a|b)", "(?:)", "()", "(|)", "(?:^)", "(?:a*)", "(?:(?=a))", "=", "-", ",", "é", "1"}
	mayNot    = []string{"", "^", "$", `\b`, `\B`, "(?=a)", "(?!a)", "(?<=a)", "(?<!a)", "a*?", "a++", "a{2}?", "a{2,}+", "(?:a)??", "|", "a|", "(?:a|", "(?:", "(?>", "(?<n>", "(?=", "(?<!"}
)

// repeatTexts are how terms are repeated, and what that is.
var repeatTexts = map[string]string{
	"*": "0 -1", "+": "1 -1", "?": "0 1", "{0}": "0 0", "{1}": "1 1", "{7}": "7 7", "{12}": "12 12", "{1000}": "1000 1000", "{0,}": "0 -1", "{1,}": "1 -1", "{1000,}": "1000 -1", "{0,0}": "0 0", "{0,1}": "0 1", "{3,12}": "3 12", "{5,5}": "5 5",
	"{0,1000}": "0 1000", "{1000,1000}": "1000 1000", "{00}": "0 0", "{007}": "7 7", "{0002,}": "2 -1", "{000,000001}": "0 1", "{0000000000001000,00000000000000000000000001000}": "1000 1000", "{999,1000}": "999 1000",
}

// TestRepeats: P9.1, each repeat behind each term that may be, greedy, lazy and own.
func TestRepeats(t *testing.T) {
	for _, term := range mayRepeat {
		r, _, e := alike(t, term, api.Flags{}, tables())
		if e != api.OK {
			t.Fatal(term, e)
		}
		last := strconv.Itoa(len(r.Tree.Nodes) - 1)
		for text, counts := range repeatTexts {
			for sign, mode := range map[string]string{"": "greedy", "?": "lazy", "+": "own"} {
				l := append(nodesShown(r), "repeat "+counts+" "+mode+"["+last+"]")
				l = append(l, groupsShown(r)...)
				readsWith(t, term+text+sign, api.Flags{}, tables(), strings.Join(l, "; "))
			}
		}
	}
	reads(t, "a*b", "{61}; repeat 0 -1 greedy[0]; {62}; seq[1 2]")
	reads(t, "ab*", "{61}; {62}; repeat 0 -1 greedy[1]; seq[0 2]")
	reads(t, "a|b?|c", "{61}; {62}; repeat 0 1 greedy[1]; {63}; alt[0 2 3]")
	reads(t, "(?:ab)+", "{61}; {62}; seq[0 1]; repeat 1 -1 greedy[2]")
	reads(t, "(?:a*)*", "{61}; repeat 0 -1 greedy[0]; repeat 0 -1 greedy[1]")
	reads(t, "(?:a{2}){3}", "{61}; repeat 2 2 greedy[0]; repeat 3 3 greedy[1]")
	reads(t, "a*1,", "{61}; repeat 0 -1 greedy[0]; {31}; {2C}; seq[1 2 3]")
	reads(t, "a{2}3", "{61}; repeat 2 2 greedy[0]; {33}; seq[1 2]")
}

// TestNotRepeated: P9.1, each repeat behind what may not be repeated: a sign that may not stand there.
func TestNotRepeated(t *testing.T) {
	for _, term := range mayNot {
		at := len(term)
		for text := range repeatTexts {
			failsAt(t, term+text, api.Flags{}, api.ErrSyntax, at)
			failsAt(t, term+text+"?", withFold, api.ErrSyntax, at)
			failsAt(t, term+text+"+)", api.Flags{All: true}, api.ErrSyntax, at)
		}
		for _, text := range []string{"{", "{,1}", "{a}", "{2,1}", "{1001}", "}", "]"} {
			fails(t, term+text, api.ErrSyntax, at)
		}
	}
	// Behind a ( the sign ? begins a head.
	for text := range repeatTexts {
		if text != "?" {
			fails(t, "("+text, api.ErrSyntax, 1)
		}
	}
	// Behind ? and + alone, that stand behind a repeat, nothing is repeated again.
	for _, text := range []string{"a**", "a+*", "a?*", "a{1}*", "a*{1}", "a+{1}", "a?{1}", "a{1}{1}", "a?{", "a*}"} {
		at := 2
		if strings.HasPrefix(text, "a{") {
			at = 4
		}
		fails(t, text, api.ErrSyntax, at)
	}
	for _, text := range []string{"a*??", "a*?+", "a*+?", "a*++", "a+++", "a+?*", "a??*", "a???", "a?+?", "a?+{1}"} {
		fails(t, text, api.ErrSyntax, 3)
	}
}

// TestBraces: P9.1, { behind what may be repeated, that goes on otherwise.
func TestBraces(t *testing.T) {
	for _, text := range []string{
		"{", "{}", "{,", "{,}", "{,1}", "{,1", "{1", "{12", "{1,", "{1,2", "{1,2,", "{1,2,}", "{1,2,3}", "{1,,}", "{1,,2}", "{,,}", "{a}", "{a", "{1a}", "{1,a}", "{1,2a}", "{ 1}", "{1 }", "{1, 2}", "{1 ,2}", "{-1}", "{+1}", "{1,-1}", "{1;2}", "{1.5}", "{{1}}", "{1{", "{1)", "{1|", "{1]", "{1,]", "{é}", "{\u0661}", "{1\u066C}", "{0x1}", "{1,*}",
	} {
		for _, term := range mayRepeat {
			at := len([]rune(term))
			failsAt(t, term+text, api.Flags{}, api.ErrSyntax, at)
		}
		fails(t, "a"+text, api.ErrSyntax, 1)
		fails(t, "a"+text+"]*", api.ErrSyntax, 1)
		fails(t, "(ab"+text+")", api.ErrSyntax, 3)
	}
	reads(t, `a\{1}`[:3]+`\}`, "{61}; {7B}; {7D}; seq[0 1 2]")
	reads(t, "a,1", "{61}; {2C}; {31}; seq[0 1 2]")
}

// TestCounts: P9.1, counts that are too great, or in the wrong order: and what is told first.
func TestCounts(t *testing.T) {
	for _, text := range []string{
		"{1001}", "{1001,}", "{1001,1001}", "{0,1001}", "{1000,1001}", "{1001,1000}", "{1001,0}", "{2000}", "{9999,1}", "{01001}", "{0,000000000001001}", "{65536}", "{4294967296}", "{4294967297,1}", "{1,4294967297}", "{18446744073709551617}", "{0,18446744073709551617}", "{18446744073709551617,}", "{18446744073709551617,18446744073709551616}", "{" + strings.Repeat("9", 900) + "," + strings.Repeat("8", 900) + "}", "{1073741824}", "{1073741825,1073741824}", "{1" + strings.Repeat("0", 1500) + ",}",
	} {
		fails(t, "a"+text, api.ErrSize, 1)
		fails(t, "(b)"+text+"**", api.ErrSize, 3)
	}
	for _, text := range []string{"{1,0}", "{2,1}", "{1000,999}", "{1000,0}", "{010,9}", "{10,09}", "{2,00000000000000000001}"} {
		fails(t, "a"+text, api.ErrOrder, 1)
		fails(t, "(b)"+text+"**", api.ErrOrder, 3)
	}
	// What does not go on as it must is told ahead of numbers that may not be.
	for _, text := range []string{"{1001", "{1001,", "{1001,1", "{1,1001", "{2,1", "{1001a}", "{2,1,}", "{1001,1001,1001}", "{,1001}", "{,18446744073709551617}", "{2,1 }", "{1001,1;"} {
		fails(t, "a"+text, api.ErrSyntax, 1)
	}
	// Errors of what stands within are met ahead, of what stands behind later.
	fails(t, "(a{2,1}){1001}", api.ErrOrder, 2)
	fails(t, "(a{1001}){2,1}", api.ErrSize, 2)
	fails(t, "(a){2,1}{1001}", api.ErrOrder, 3)
	fails(t, `\p{No}{1001}`, api.ErrName, 0)
	fails(t, `a{1001}\p{No}`, api.ErrSize, 1)
}
