package class_test

import (
	"math/rand"
	"slices"
	"strings"
	"testing"

	"tinder/api"
	"tinder/class"
	"tinder/scan"
)

// tells fails unless Escape tells that, and stands at that place behind it, whatever stands ahead of it.
func tells(t *testing.T, text string, flags api.Flags, x api.Tables, want []api.Range, is bool, e api.Errno, at int) {
	t.Helper()
	for _, ahead := range [][]int{nil, {'\\'}, signs("[^\\p{Lu"), odd} {
		s := behind(append(slices.Clone(ahead), signs(text)...), len(ahead))
		set, gotIs, gotE := class.Escape(s, flags, x)
		if !slices.Equal(set, want) || gotIs != is || gotE != e || s.At() != len(ahead)+at {
			t.Errorf("%q, %v: %x, %v, %v, at %d; want %x, %v, %v, at %d", text, flags, set, gotIs, gotE, s.At()-len(ahead), want, is, e, at)
		}
	}
}

// TestMeanings: P8.1, what each of the eight signs means, with the flag Fold and without, with folds of tables and without.
func TestMeanings(t *testing.T) {
	none := letters()
	none.Folds = nil
	others := of(0, '0'-1, '9'+1, top)
	visible := of(0, 8, 14, 31, 33, 0x9F, 0xA1, 0x167F, 0x1681, 0x1FFF, 0x200B, 0x2027, 0x202A, 0x202E, 0x2030, 0x205E, 0x2060, 0x2FFF, 0x3001, 0xFEFE, 0xFF00, top)
	marks := of(0, '0'-1, '9'+1, 'A'-1, 'Z'+1, '_'-1, '`', '`', 'z'+1, top)
	for _, x := range []struct {
		text       string
		bare, fold []api.Range
	}{
		{"d", digits, of('0', '9', 0xFF10, 0xFF10)},
		{"D", others, of(0, '0', '9'+1, top)},
		{"s", spaces, append(of(9, 13, 32, 33), spaces[2:]...)},
		{"S", visible, append(of(0, 8, 14, 31, 33, 0x167F), visible[4:]...)},
		{"w", words, append(slices.Clone(words), of(0x17F, 0x17F, 0x212A, 0x212A, 0xFF10, 0xFF10)...)},
		{"W", marks, of(0, '0'-1, '9'+1, 'A'-1, 'Z'+1, '_'-1, '`', '`', 'z'+1, 0x17E, 0x180, 0x2129, 0x212B, 0xFF0F, 0xFF11, top)},
		{"p{Lu}", of('A', 'Z'), of('A', 'Z', 'a', 'a', 'k', 'k', 's', 's', 0x17F, 0x17F, 0x212A, 0x212A)},
		{"P{Lu}", of(0, 'A'-1, 'Z'+1, top), of(0, 'A', 'K', 'K', 'S', 'S', 'Z'+1, top)},
		{"p{=}", of('=', '='), of('=', '=')},
		{"P{=}", of(0, '='-1, '='+1, top), of(0, '='-1, '='+1, top)},
		{"p{All}", of(0, top), of(0, top)},
		{"P{All}", nil, nil},
		{"p{None}", nil, nil},
		{"P{None}", of(0, top), of(0, top)},
		{"p{" + name40 + "}", of(0, 0, top, top), of(0, 0, top, top)},
		{"P{" + name40 + "}", of(1, top-1), of(1, top-1)},
	} {
		for _, flags := range allFlags() {
			want := x.bare
			if flags.Fold {
				want = x.fold
			}
			for _, tail := range []string{"", "]", "d", "{Lu}", "}"} {
				if len(x.text) == 1 || !strings.HasPrefix(tail, "}") {
					tells(t, x.text+tail, flags, letters(), want, true, api.OK, len(x.text))
					tells(t, x.text+tail, flags, none, x.bare, true, api.OK, len(x.text))
				}
			}
		}
	}
}

// TestNoSign: P8.1, nothing is read where none of the eight signs stands next.
func TestNoSign(t *testing.T) {
	numbers := slices.Clone(odd)
	for c := -300; c < 700; c++ {
		numbers = append(numbers, c)
	}
	for _, c := range numbers {
		is := 0 <= c && c < 128 && strings.Contains("dDsSwWpP", string(rune(c)))
		for _, tail := range []string{"", "d", "{Lu}", "p{Lu}", "]"} {
			s := scan.New(append([]int{c}, signs(tail)...)...)
			set, got, e := class.Escape(s, withFold, letters())
			if got != is || !is && (set != nil || e != api.OK || s.At() != 0) {
				t.Error(c, tail, set, got, e, s.At())
			}
		}
	}
	tells(t, "", withFold, letters(), nil, false, api.OK, 0)
	tells(t, "\\d", withFold, letters(), nil, false, api.OK, 0)
	tells(t, "{Lu}", withFold, letters(), nil, false, api.OK, 0)
	tells(t, "n", withFold, letters(), nil, false, api.OK, 0)
}

// TestBraces: P8.1, of p and P how far is read where what must stand behind does not.
func TestBraces(t *testing.T) {
	for _, sign := range []string{"p", "P"} {
		for text, at := range map[string]int{
			"": 0, "L": 0, "}": 0, "]": 0, " {Lu}": 0, "\\{Lu}": 0, "(Lu)": 0, "[Lu]": 0, "^{Lu}": 0,
			"{": 1, "{}": 1, "{ Lu}": 1, "{{Lu}}": 1, "{-}": 1, "{^Lu}": 1, "{:Lu}": 1, "{]": 1, "{\\}": 1, "{>": 1,
			"{L": 2, "{Lu": 3, "{Lu{": 3, "{Lu]": 3, "{Lu }": 3, "{L-u}": 2, "{Lu>": 3, "{=": 2, "{_ }": 2, "{9-9}": 2, "{No": 3, "{No-}": 3, "{Lu$}": 3, "{Lu,E}": 3,
			"{" + name40: 41, "{" + name40 + "]": 41, "{" + name40 + "-}": 41, "{" + name41: 41, "{" + name41 + "}": 41, "{" + name41 + "xx}": 41, "{" + strings.Repeat("L", 1000) + "}": 41, "{" + strings.Repeat("L", 40): 41, "{" + strings.Repeat("L", 39): 40, "{" + strings.Repeat("L", 39) + "-": 40,
		} {
			for _, flags := range allFlags() {
				tells(t, sign+text, flags, letters(), nil, true, api.ErrSyntax, 1+at)
				tells(t, sign+text, flags, api.Tables{}, nil, true, api.ErrSyntax, 1+at)
			}
		}
	}
}

// TestCut: P8.1, cut at every place, and then a sign that may not stand there.
func TestCut(t *testing.T) {
	for _, text := range []string{"p{Lu}", "P{Lu}", "p{=}", "P{None}", "p{No}", "P{" + name40 + "}"} {
		for end := 1; end < len(text); end++ {
			tells(t, text[:end], bare, letters(), nil, true, api.ErrSyntax, end)
			tells(t, text[:end], withFold, letters(), nil, true, api.ErrSyntax, end)
			for _, c := range append([]int{'-', '$', '}' + 256, '{' - 256, 1<<32 + '}'}, odd...) {
				points := append(signs(text[:end]), c)
				points = append(points, signs(text[end:])...)
				s := scan.New(points...)
				if set, is, e := class.Escape(s, withFold, letters()); set != nil || !is || e != api.ErrSyntax || s.At() != end {
					t.Error(text, end, c, set, is, e, s.At())
				}
			}
		}
	}
}

// TestNames: P8.1, names of each length, and of each sign: ErrName of one that no Prop has, ErrSyntax of one that is none.
func TestNames(t *testing.T) {
	for n := range 60 {
		name := strings.Repeat("b", n)
		x := api.Tables{}
		if n >= 1 && n <= 40 {
			x.Props = []api.Prop{{Name: name, Set: of(7, 9)}}
			tells(t, "p{"+name+"}}", bare, x, of(7, 9), true, api.OK, n+3)
			tells(t, "P{"+name+"}}", bare, x, of(0, 6, 10, top), true, api.OK, n+3)
			for _, near := range []string{name + "b", name[1:], "B" + name[1:], name[1:] + "_"} {
				if len(near) == 0 || len(near) > 40 {
					continue
				}
				tells(t, "p{"+near+"}", withFold, x, nil, true, api.ErrName, len(near)+3)
				tells(t, "P{"+near+"}", withFold, x, nil, true, api.ErrName, len(near)+3)
			}
			tells(t, "p{"+name+"}", bare, api.Tables{}, nil, true, api.ErrName, n+3)
		} else {
			tells(t, "p{"+name+"}", bare, x, nil, true, api.ErrSyntax, min(n, 40)+2)
		}
	}
	for c := range 256 {
		sign := string([]byte{byte(c)})
		x := api.Tables{Props: []api.Prop{{Name: sign, Set: of(c, c)}}}
		x.Props = append(x.Props, api.Prop{Name: sign + "x", Set: of(c+1, c+1)})
		if strings.Contains("abcdefghijklmnopqrstuvwxyzABCDEFGHIJKLMNOPQRSTUVWXYZ0123456789_=", sign) {
			tells(t, "p{"+sign+"}", bare, x, of(c, c), true, api.OK, 4)
			tells(t, "p{"+sign+"x}", bare, x, of(c+1, c+1), true, api.OK, 5)
			tells(t, "p{"+sign+"y}", bare, x, nil, true, api.ErrName, 5)
		} else {
			tells(t, "p{"+sign+"}", bare, x, nil, true, api.ErrSyntax, 2)
			if c != '}' {
				tells(t, "p{x"+sign+"}", bare, x, nil, true, api.ErrSyntax, 3)
			}
		}
	}
}

// TestEscapeNoLimit: P8.1, a set's escape may have more ranges than brackets may.
func TestEscapeNoLimit(t *testing.T) {
	x := api.Tables{Props: []api.Prop{{Name: "A", Set: apart(2000)}}}
	var between []api.Range
	for i := range 2001 {
		between = append(between, api.Range{Lo: max(0, 4*i+1), Hi: 4*i + 2})
	}
	between[0].Lo, between[2000].Hi = 0, top
	for _, flags := range allFlags() {
		tells(t, "p{A}", flags, x, apart(2000), true, api.OK, 4)
		tells(t, "P{A}", flags, x, between, true, api.OK, 4)
	}
}

// TestEscapes: P8.1, held against the chapter's words: all short texts of some signs, and such of longer pieces.
func TestEscapes(t *testing.T) {
	for _, flags := range []api.Flags{bare, withFold} {
		texts := []string{""}
		for at := 0; len(texts[at]) < 5; at++ {
			for _, c := range "pPL{}=w]" {
				texts = append(texts, texts[at]+string(c))
			}
		}
		for _, text := range texts {
			escapes(t, signs(text), 0, flags, letters())
		}
	}
	r := rand.New(rand.NewSource(81))
	all := append(wrong(), letters(), letters(), letters(), letters(), api.Tables{})
	for range 20000 {
		points := some(r)
		escapes(t, points, r.Intn(len(points)+1), allFlags()[r.Intn(16)], all[r.Intn(len(all))])
	}
}
