package show_test

import (
	"fmt"
	"strings"
	"testing"

	"tinder/api"
	"tinder/show"
)

const (
	greedy = api.ModeGreedy
	lazy   = api.ModeLazy
	own    = api.ModeOwn
)

// TestExample: the chapter's example.
func TestExample(t *testing.T) {
	shows(t, seq(set('a', 'c'), repeat(0, -1, greedy, alt(empty(), set('a', 'a')))), `[\u{61}-\u{63}](?:(?:)|[\u{61}]){0,}`)
}

// TestSets: P11.1, sets: signs in hexadecimal, one of a range that is one code point, none of a set without any.
func TestSets(t *testing.T) {
	shows(t, set(), `[]`)
	shows(t, set('a', 'a'), `[\u{61}]`)
	shows(t, set('a', 'b'), `[\u{61}-\u{62}]`)
	shows(t, set('a', 'c'), `[\u{61}-\u{63}]`)
	shows(t, set('a', 'a', 'c', 'c'), `[\u{61}\u{63}]`)
	shows(t, set('a', 'b', 'd', 'd', 'f', 'z'), `[\u{61}-\u{62}\u{64}\u{66}-\u{7a}]`)
	shows(t, set('a', 'a', 'c', 'f', 'h', 'h', 'j', 'j'), `[\u{61}\u{63}-\u{66}\u{68}\u{6a}]`)
	shows(t, set(0, 0), `[\u{0}]`)
	shows(t, set(0, top), `[\u{0}-\u{10ffff}]`)
	shows(t, set(top, top), `[\u{10ffff}]`)
	shows(t, set(1, 1, 9, 0xA, 0xF, 0x10), `[\u{1}\u{9}-\u{a}\u{f}-\u{10}]`)
	shows(t, set(0xABCDE, 0xFEDCB), `[\u{abcde}-\u{fedcb}]`)
	shows(t, set(0xFF, 0x100, 0x1000, 0x1000, 0xFFFF, 0x10000, 0x1F600, 0x1F600), `[\u{ff}-\u{100}\u{1000}\u{ffff}-\u{10000}\u{1f600}]`)
	// Signs that mean something else in brackets, or ahead of them.
	for _, c := range `^]-[\bdDsSwWpPknu0{}|()*+?.$/&~` {
		shows(t, set(int(c), int(c)), fmt.Sprintf(`[\u{%x}]`, c))
	}
	shows(t, set('^', '^', 'a', 'a'), `[\u{5e}\u{61}]`)
	shows(t, set('+', '+', '-', '-', '/', '/'), `[\u{2b}\u{2d}\u{2f}]`)
	shows(t, set('+', '-', ']', ']'), `[\u{2b}-\u{2d}\u{5d}]`)
	// Halves, which stand for themselves here, even one behind the other.
	shows(t, set(0xD800, 0xD800), `[\u{d800}]`)
	shows(t, set(0xD83D, 0xD83D, 0xDE00, 0xDE00), `[\u{d83d}\u{de00}]`)
	shows(t, set(0xD7FF, 0xDBFF, 0xDFFF, 0xE000), `[\u{d7ff}-\u{dbff}\u{dfff}-\u{e000}]`)
	// Ends of lines, which are no others here.
	shows(t, set(10, 10, 13, 13, 0x2028, 0x2029), `[\u{a}\u{d}\u{2028}-\u{2029}]`)
}

// TestAllPoints: P11.1, the sign of each code point.
func TestAllPoints(t *testing.T) {
	for c := range top + 1 {
		if text, e := show.Text(set(c, c)); e != api.OK || text != fmt.Sprintf(`[\u{%x}]`, c) {
			t.Fatalf("%x: %v, %q", c, e, text)
		}
	}
}

// TestLeaves: P11.1, what has no kids.
func TestLeaves(t *testing.T) {
	shows(t, empty(), `(?:)`)
	shows(t, spot(api.SpotStart), `^`)
	shows(t, spot(api.SpotEnd), `$`)
	shows(t, spot(api.SpotWord), `\b`)
	shows(t, spot(api.SpotInner), `\B`)
}

// TestAbove: P11.1, what has kids.
func TestAbove(t *testing.T) {
	a, b, c := set('a', 'a'), spot(api.SpotWord), empty()
	shows(t, seq(a, b), `[\u{61}]\b`)
	shows(t, seq(b, a), `\b[\u{61}]`)
	shows(t, seq(a, b, c, a), `[\u{61}]\b(?:)[\u{61}]`)
	shows(t, alt(a, b), `[\u{61}]|\b`)
	shows(t, alt(b, a), `\b|[\u{61}]`)
	shows(t, alt(c, c), `(?:)|(?:)`)
	shows(t, alt(a, b, c, a), `[\u{61}]|\b|(?:)|[\u{61}]`)
	shows(t, atomic(a), `(?>[\u{61}])`)
	shows(t, atomic(c), `(?>(?:))`)
	shows(t, ahead(false, a), `(?=[\u{61}])`)
	shows(t, ahead(true, a), `(?![\u{61}])`)
	shows(t, behind(false, a), `(?<=[\u{61}])`)
	shows(t, behind(true, a), `(?<![\u{61}])`)
	shows(t, ahead(true, behind(false, ahead(false, behind(true, c)))), `(?!(?<=(?=(?<!(?:)))))`)
}

// TestRepeats: P11.1, counts and modes of repeats.
func TestRepeats(t *testing.T) {
	a := set('a', 'a')
	for _, x := range []struct {
		from, to int
		want     string
	}{
		{0, -1, `{0,}`}, {1, -1, `{1,}`}, {7, -1, `{7,}`}, {1000, -1, `{1000,}`}, {0, 0, `{0,0}`}, {0, 1, `{0,1}`}, {1, 1, `{1,1}`}, {3, 3, `{3,3}`}, {2, 10, `{2,10}`}, {0, 1000, `{0,1000}`}, {999, 1000, `{999,1000}`}, {1000, 1000, `{1000,1000}`},
	} {
		shows(t, repeat(x.from, x.to, greedy, a), `[\u{61}]`+x.want)
		shows(t, repeat(x.from, x.to, lazy, a), `[\u{61}]`+x.want+"?")
		shows(t, repeat(x.from, x.to, own, a), `[\u{61}]`+x.want+"+")
	}
	shows(t, repeat(0, -1, greedy, repeat(1, 1, lazy, repeat(2, 5, own, a))), `(?:(?:[\u{61}]{2,5}+){1,1}?){0,}`)
	// What stands behind a repeat is none of its own signs.
	shows(t, seq(repeat(0, 1, greedy, a), repeat(0, 1, lazy, a), repeat(0, 1, own, a), a), `[\u{61}]{0,1}[\u{61}]{0,1}?[\u{61}]{0,1}+[\u{61}]`)
}

// TestGroups: P11.1, groups with names and without, in the order in which they begin, and what refers to them.
func TestGroups(t *testing.T) {
	a := set('a', 'a')
	shows(t, named(group(1, a), ""), `([\u{61}])`)
	shows(t, named(group(1, a), "n"), `(?<n>[\u{61}])`)
	shows(t, named(group(1, a), name40), `(?<`+name40+`>[\u{61}])`)
	shows(t, named(seq(group(1, empty()), back(1)), ""), `((?:))\1`)
	shows(t, named(seq(group(1, empty()), back(1)), "$_0"), `(?<$_0>(?:))\k<$_0>`)
	shows(t, named(seq(back(1), group(1, back(1)), back(1)), ""), `\1(\1)\1`)
	shows(t, named(group(1, group(2, group(3, back(2)))), "x", "", "y"), `(?<x>((?<y>\2)))`)
	shows(t, named(alt(group(1, group(2, start())), group(3, empty()), seq(back(3), back(2), back(1))), "", "b", "c"), `((?<b>^))|(?<c>(?:))|\k<c>\k<b>\1`)
	// Names that differ in how long they are, in great and small letters; those of signs that mean something else elsewhere.
	names := []string{"a", "A", "aa", "k", "d", "u", "_", "$", "p", "B", "a0", name40}
	var kids []api.Tree
	want := ""
	for i := range names {
		kids = append(kids, group(i+1, start()), back(i+1))
		want += `(?<` + names[i] + `>^)\k<` + names[i] + `>`
	}
	shows(t, named(seq(kids...), names...), want)
	// A number of two digits, and what may stand behind a number.
	kids, want = nil, ""
	for i := range 20 {
		kids = append(kids, group(i+1, start()))
		want += "(^)"
	}
	for i := range 20 {
		kids = append(kids, back(i+1), repeat(i, 20, lazy, back(20-i)))
		want += fmt.Sprintf(`\%d\%d{%d,20}?`, i+1, 20-i, i)
	}
	shows(t, unnamed(seq(kids...)), want)
}

// TestBinds: P11.1, of each kid below each node whether it is put in (?: and ).
func TestBinds(t *testing.T) {
	a := set('a', 'a')
	kids := []struct {
		x     api.Tree
		text  string
		binds string
	}{
		{empty(), `(?:)`, asTerm}, {a, `[\u{61}]`, asTerm}, {set(), `[]`, asTerm}, {atomic(alt(a, a)), `(?>[\u{61}]|[\u{61}])`, asTerm}, {group(1, alt(a, a)), `([\u{61}]|[\u{61}])`, asTerm},
		{seq(start(), a), `^[\u{61}]`, asSequence}, {seq(a, a, a), `[\u{61}][\u{61}][\u{61}]`, asSequence}, {alt(start(), a), `^|[\u{61}]`, asChoice}, {alt(empty(), empty(), empty()), `(?:)|(?:)|(?:)`, asChoice},
		{start(), `^`, asSpot}, {spot(api.SpotInner), `\B`, asSpot}, {repeat(1, 2, own, a), `[\u{61}]{1,2}+`, asSpot}, {repeat(0, -1, greedy, a), `[\u{61}]{0,}`, asSpot}, {ahead(false, seq(a, a)), `(?=[\u{61}][\u{61}])`, asSpot}, {behind(true, alt(a, a)), `(?<![\u{61}]|[\u{61}])`, asSpot},
	}
	for _, k := range kids {
		inSeq, inRepeat, inAlt := k.text, k.text, k.text
		if k.binds == asChoice || k.binds == asSequence {
			inSeq = "(?:" + k.text + ")"
		}
		if k.binds == asChoice {
			inAlt = "(?:" + k.text + ")"
		}
		if k.binds != asTerm {
			inRepeat = "(?:" + k.text + ")"
		}
		shows(t, unnamed(k.x), k.text)
		shows(t, unnamed(seq(k.x, start())), inSeq+`^`)
		shows(t, unnamed(seq(start(), k.x)), `^`+inSeq)
		shows(t, unnamed(seq(start(), k.x, start())), `^`+inSeq+`^`)
		shows(t, unnamed(alt(k.x, start())), inAlt+`|^`)
		shows(t, unnamed(alt(start(), k.x)), `^|`+inAlt)
		shows(t, unnamed(alt(start(), k.x, start())), `^|`+inAlt+`|^`)
		shows(t, unnamed(repeat(0, -1, greedy, k.x)), inRepeat+`{0,}`)
		shows(t, unnamed(repeat(1, 1, lazy, k.x)), inRepeat+`{1,1}?`)
		shows(t, unnamed(repeat(0, 3, own, k.x)), inRepeat+`{0,3}+`)
		shows(t, unnamed(atomic(k.x)), `(?>`+k.text+`)`)
		shows(t, unnamed(ahead(false, k.x)), `(?=`+k.text+`)`)
		shows(t, unnamed(ahead(true, k.x)), `(?!`+k.text+`)`)
		shows(t, unnamed(behind(false, k.x)), `(?<=`+k.text+`)`)
		shows(t, unnamed(behind(true, k.x)), `(?<!`+k.text+`)`)
		if !strings.HasPrefix(k.text, "([") {
			shows(t, named(group(1, k.x), ""), `(`+k.text+`)`)
			shows(t, named(group(1, k.x), "n"), `(?<n>`+k.text+`)`)
		}
	}
	// What refers is a term.
	shows(t, named(repeat(0, 1, greedy, seq(group(1, empty()), repeat(0, 1, greedy, back(1)))), ""), `(?:((?:))\1{0,1}){0,1}`)
	shows(t, named(repeat(0, 1, greedy, seq(group(1, empty()), repeat(0, 1, greedy, back(1)))), "n"), `(?:(?<n>(?:))\k<n>{0,1}){0,1}`)
}

// TestNested: P11.1, (?: and ) within one another.
func TestNested(t *testing.T) {
	a := start()
	shows(t, seq(seq(seq(a, a), a), seq(a, seq(a, a))), `(?:(?:^^)^)(?:^(?:^^))`)
	shows(t, alt(alt(alt(a, a), a), alt(a, alt(a, a))), `(?:(?:^|^)|^)|(?:^|(?:^|^))`)
	shows(t, seq(alt(seq(a, a), a), alt(a, seq(a, a))), `(?:^^|^)(?:^|^^)`)
	shows(t, alt(seq(alt(a, a), a), seq(a, alt(a, a))), `(?:^|^)^|^(?:^|^)`)
	shows(t, repeat(0, 1, greedy, seq(repeat(0, 1, greedy, alt(a, a)), a)), `(?:(?:^|^){0,1}^){0,1}`)
}
