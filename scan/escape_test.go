package scan_test

import (
	"fmt"
	"slices"
	"strings"
	"testing"

	"tinder/api"
	"tinder/scan"
)

// escapes fails unless an escape of so many signs is read, wherever it stands; it has to hold whatever of the tails stands behind it.
func escapes(t *testing.T, text string, want int, tails ...string) {
	t.Helper()
	for _, ahead := range []string{"", "\\", "a\\u", "0"} {
		for _, tail := range append(tails, "") {
			s := of(ahead + text + tail)
			s.Take(ahead)
			if c, ok := s.Escape(); !ok || c != want || s.At() != len(ahead+text) {
				t.Fatalf("%q: %x, %v, at %d; want %x, %d", ahead+text+tail, c, ok, s.At(), want, len(ahead+text))
			}
		}
	}
}

// refuses fails if an escape stands next.
func refuses(t *testing.T, l ...int) {
	t.Helper()
	for _, ahead := range []string{"", "\\", "a\\u"} {
		s := scan.New(append(bytesOf(ahead), l...)...)
		s.Take(ahead)
		if c, ok := s.Escape(); ok || c != 0 || s.At() != len(ahead) {
			t.Fatalf("%x: %x, %v, at %d", l, c, ok, s.At())
		}
	}
}

func refusesText(t *testing.T, texts ...string) {
	t.Helper()
	for _, text := range texts {
		refuses(t, bytesOf(text)...)
	}
}

const signs = `^$\.*+?()[]{}|/`

// anything may stand behind an escape whose end is told by itself.
var anything = []string{"a", "0", "9", "}", "{", "\\", "\\u", "\\uDE00", "uDE00", " ", "\x00", "\xFF"}

// TestControls: P7.4, signs that stand for one code point each.
func TestControls(t *testing.T) {
	escapes(t, "f", 12, anything...)
	escapes(t, "n", 10, anything...)
	escapes(t, "r", 13, anything...)
	escapes(t, "t", 9, anything...)
	escapes(t, "v", 11, anything...)
}

// TestSigns: P7.4, each sign of the syntax, and each byte that is none.
func TestSigns(t *testing.T) {
	for c := range 256 {
		sign := string([]byte{byte(c)})
		if strings.Contains(signs, sign) {
			escapes(t, sign, c, anything...)
		} else if !strings.Contains("fnrtvcxu0", sign) {
			for _, tail := range append(anything, "", "41", "{41}", "0041") {
				refuses(t, bytesOf(sign+tail)...)
			}
		}
	}
	for _, c := range append([]int{256 + '^', 256 + 'f', '^' - 256, 1<<32 + '0', 1<<40 + 'n'}, odd...) {
		refuses(t, c)
		refuses(t, c, 'a')
		refuses(t, c, '4', '1')
	}
	refuses(t)
}

// TestLetters: P7.4, c and each byte behind it.
func TestLetters(t *testing.T) {
	for i := range 26 {
		escapes(t, "c"+string(rune('a'+i)), i+1, anything...)
		escapes(t, "c"+string(rune('A'+i)), i+1, anything...)
	}
	for c := range 256 {
		if c < 'A' || c > 'Z' && c < 'a' || c > 'z' {
			refuses(t, 'c', c)
			refuses(t, 'c', c, 'a')
		}
	}
	for _, c := range append([]int{256 + 'a', 'a' - 256, 1<<32 + 'Z'}, odd...) {
		refuses(t, 'c', c)
	}
	refusesText(t, "c", "C", "Ca", "c ", "c1a", "c_")
}

// TestZero: P7.4, 0, and what may stand behind it.
func TestZero(t *testing.T) {
	for c := range 256 {
		tail := string([]byte{byte(c)})
		if '0' <= c && c <= '9' {
			refuses(t, '0', c)
			refuses(t, '0', c, 'a')
		} else {
			escapes(t, "0", 0, tail, tail+"1")
		}
	}
	for _, c := range append([]int{256 + '0', '9' - 256, 0x660}, odd...) {
		s := scan.New('0', c)
		if p, ok := s.Escape(); !ok || p != 0 || s.At() != 1 {
			t.Error(c, p, ok, s.At())
		}
	}
}

const hexadecimal = "0123456789abcdefABCDEF"

// TestShort: P7.4, x and each two bytes behind it.
func TestShort(t *testing.T) {
	for a := range 256 {
		for b := range 256 {
			text := "x" + string([]byte{byte(a), byte(b)})
			if !strings.Contains(hexadecimal, text[1:2]) || !strings.Contains(hexadecimal, text[2:]) {
				s := of(text + "41")
				if c, ok := s.Escape(); ok || c != 0 || s.At() != 0 {
					t.Fatalf("%q: %x, %v", text, c, ok)
				}
			}
		}
	}
	for c := range 256 {
		for _, form := range []string{"x%02x", "x%02X"} {
			escapes(t, fmt.Sprintf(form, c), c, anything...)
		}
		escapes(t, fmt.Sprintf("x%x%X", c>>4, c&15), c, anything...)
		escapes(t, fmt.Sprintf("x%X%x", c>>4, c&15), c, anything...)
	}
	refusesText(t, "x", "x4", "xg1", "x1g", "X41", "x{41}", "x 41")
	refuses(t, 'x', '4', 256+'1')
	refuses(t, 'x', '4'-256, '1')
}

// TestBraces: P7.4, u and digits in braces: each code point, and what is none.
func TestBraces(t *testing.T) {
	for _, c := range []int{0, 1, 9, 0xA, 0xF, 0x10, 0x41, 0xFF, 0x100, 0xFFF, 0x1000, 0xD7FF, 0xD800, 0xD83D, 0xDBFF, 0xDC00, 0xDFFF, 0xE000, 0xFFFF, 0x10000, 0x1F600, 0xABCDE, 0xFEDCB, 0xFFFFF, 0x100000, 0x10FFFE, 0x10FFFF} {
		for _, form := range []string{"u{%x}", "u{%X}", "u{0%x}", "u{0000000000000000%X}", "u{%06x}", "u{%0300x}"} {
			escapes(t, fmt.Sprintf(form, c), c, anything...)
		}
	}
	for _, c := range []int{0x110000, 0x110001, 0x10FFFF0, 0x200000, 0x1000041, 0x100000041, 1 << 40, 1<<62 + 0x41, 1<<63 - 1} {
		refusesText(t, fmt.Sprintf("u{%x}", c), fmt.Sprintf("u{0%X}", c), fmt.Sprintf("u{%x0041}", c), fmt.Sprintf("u{%x}}", c))
	}
	for _, n := range []int{7, 8, 9, 15, 16, 17, 18, 32, 33, 64, 65536} {
		refusesText(t, "u{1"+strings.Repeat("0", n)+"}", "u{1"+strings.Repeat("0", n-1)+"1}", "u{"+strings.Repeat("f", n)+"}", "u{"+strings.Repeat("F", n))
		escapes(t, "u{"+strings.Repeat("0", n)+"}", 0)
		escapes(t, "u{"+strings.Repeat("0", n)+"1}", 1)
		refusesText(t, "u{"+strings.Repeat("0", n))
	}
	refusesText(t, "u{", "u{}", "u{}41}", "u{1", "u{1 }", "u{ 1}", "u{g}", "u{1g}", "u{-1}", "u{+1}", "u{0x1}", "u{1_0}", "u{{1}}", "u{1]", "u1}", "u}", "U{41}", "u {41}", "u{\\u{41}}", "u(41)")
	refuses(t, bytesOf("u{1")...)
	refuses(t, 'u', '{', '1', 256+'}', '}')
	refuses(t, 'u', '{', 256+'1', '}')
	refuses(t, 'u', 256+'{', '1', '}')
}

// TestFour: P7.4, u and four digits: each one.
func TestFour(t *testing.T) {
	for c := range 0x10000 {
		for _, form := range []string{"u%04x", "u%04X"} {
			text := fmt.Sprintf(form, c)
			s := of(text + "}0")
			if p, ok := s.Escape(); !ok || p != c || s.At() != 5 {
				t.Fatal(text, p, ok, s.At())
			}
		}
	}
	escapes(t, "u0041", 0x41, anything...)
	escapes(t, "uaBcD", 0xABCD, anything...)
	escapes(t, "uFFFF", 0xFFFF, anything...)
	refusesText(t, "u", "u0", "u00", "u004", "u004g", "ug041", "u0g41", "u00g1", "U0041", "u 041", "u004\\u0041", "u00\\x41", "u-041", "u+041", "u0x41")
}

// TestPairs: P7.4, two halves, and what else may stand behind an upper one.
func TestPairs(t *testing.T) {
	for hi := 0xD7FE; hi < 0xDC02; hi++ {
		for _, lo := range []int{0, 0x41, 0xD7FF, 0xD800, 0xD83D, 0xDBFF, 0xDC00, 0xDC01, 0xDE00, 0xDFFE, 0xDFFF, 0xE000, 0xFFFF} {
			pair(t, hi, lo)
		}
	}
	for lo := 0xDBF0; lo < 0xE010; lo++ {
		for _, hi := range []int{0, 0x41, 0xD7FF, 0xD800, 0xD801, 0xD83D, 0xDBFF, 0xDC00, 0xDFFF, 0xE000, 0xFFFF} {
			pair(t, hi, lo)
		}
	}
}

// pair asks for one u and four digits with another one behind it, in small and great letters.
func pair(t *testing.T, hi, lo int) {
	t.Helper()
	for _, form := range []string{"u%04x\\u%04x", "u%04X\\u%04X", "u%04x\\u%04X"} {
		text := fmt.Sprintf(form, hi, lo)
		want, at := hi, 5
		if 0xD800 <= hi && hi < 0xDC00 && 0xDC00 <= lo && lo < 0xE000 {
			want, at = 0x10000+(hi-0xD800)*0x400+lo-0xDC00, 11
		}
		s := of(text)
		if c, ok := s.Escape(); !ok || c != want || s.At() != at {
			t.Fatalf("%s: %x, %v, at %d; want %x, %d", text, c, ok, s.At(), want, at)
		}
	}
}

// TestUpper: P7.4, an upper half alone, where what stands behind it is no lower one, or is cut; a lower one alone.
func TestUpper(t *testing.T) {
	const lower = "\\uDE00"
	escapes(t, "uD83D"+lower, 0x1F600, append(anything, lower, "\\uD83D")...)
	for end := range len(lower) {
		escapes(t, "uD83D", 0xD83D, lower[:end], lower[:end]+"g", lower[:end]+" ", lower[:end]+"\xFF", lower[:end]+"}"+lower)
	}
	escapes(t, "uD83D", 0xD83D, "uDE00", "\\u{DE00}", "\\u{0000DE00}", "\\UDE00", "\\\\uDE00", "/uDE00", "\\xDE00", "\\u DE00", " \\uDE00", "\\uD83D\\uDE00", "\\u0041", "\\uDE0", "DE00", "\\cA", "\\0")
	escapes(t, "u{D83D}", 0xD83D, lower, "\\u{DE00}")
	escapes(t, "uDE00", 0xDE00, "", lower, "\\uD83D", "\\uD83D\\uDE00")
	escapes(t, "uDC00", 0xDC00, anything...)
	escapes(t, "uDFFF", 0xDFFF, anything...)
	for i := range lower {
		l := bytesOf("uD83D" + lower)
		l[5+i] += 256
		s := scan.New(l...)
		if c, ok := s.Escape(); !ok || c != 0xD83D || s.At() != 5 {
			t.Errorf("%x: %x, %v, at %d", l, c, ok, s.At())
		}
	}
}

// forms are escapes of each row of the table.
func forms() []string {
	l := []string{"f", "n", "r", "t", "v", "ca", "cZ", "0", "0a", "x41", "xfF", "u{41}", "u{10FFFF}", "u{000000}", "u{110000}", "u0041", "uD83D\\uDE00", "uDBFF\\uDFFF", "uD83D\\uD83D", "uDE00\\uD83D", "uD83D\\u{DE00}"}
	for i := range signs {
		l = append(l, signs[i:i+1])
	}
	return l
}

// TestTurned: P7.4, each escape cut at every place, and with one sign turned to each other one, as the chapter's table says.
func TestTurned(t *testing.T) {
	for _, text := range forms() {
		for _, tail := range []string{"", "}", "0", "\\uDE00"} {
			l := bytesOf(text + tail)
			for end := range len(l) + 1 {
				told(t, l[:end])
			}
			for i := range l {
				for c := range 256 {
					turned := slices.Clone(l)
					turned[i] = c
					told(t, turned)
					turned[i] = l[i] - 256 + 512*(c%2)
					told(t, turned)
				}
				for _, c := range odd {
					turned := slices.Clone(l)
					turned[i] = c
					told(t, turned)
				}
				told(t, slices.Delete(slices.Clone(l), i, i+1))
				told(t, slices.Insert(slices.Clone(l), i, l[i]))
			}
		}
	}
}

// told holds an escape against the table.
func told(t *testing.T, l []int) {
	t.Helper()
	m := &model{points: l}
	want := m.escape()
	if got := (call{of: "Escape"}).asks(scan.New(l...)); got != want {
		t.Fatalf("%x: %v; want %v", l, got, want)
	}
}

// TestShortTexts: P7.4, all texts of a few signs.
func TestShortTexts(t *testing.T) {
	const alphabet = "u{}x0cD\\9ag4"
	texts := []string{""}
	for range 4 {
		for _, text := range texts {
			for i := range alphabet {
				if next := text + alphabet[i:i+1]; len(next) <= 4 {
					texts = append(texts, next)
				}
			}
		}
		slices.Sort(texts)
		texts = slices.Compact(texts)
	}
	for _, text := range texts {
		told(t, bytesOf(text))
		told(t, bytesOf("u"+text))
		told(t, bytesOf("u{"+text))
		told(t, bytesOf("uD83D\\u"+text))
	}
}

// TestEnds: P7.4, escapes one behind the other are read one by one.
func TestEnds(t *testing.T) {
	s := of("ncau{10ffff}uDBFF\\uDFFFx0a00")
	for _, want := range []int{10, 1, api.MaxPoint, api.MaxPoint, 10} {
		if c, ok := s.Escape(); !ok || c != want {
			t.Errorf("%x, %v; want %x", c, ok, want)
		}
	}
	if c, ok := s.Escape(); ok || c != 0 || s.At() != 26 {
		t.Error(c, ok, s.At())
	}
}
