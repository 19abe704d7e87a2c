package scan_test

import (
	"math"
	"slices"
	"strconv"
	"strings"
	"testing"

	"tinder/api"
	"tinder/scan"
)

// bytesOf are a text's bytes, each a code point.
func bytesOf(text string) []int {
	var l []int
	for i := range len(text) {
		l = append(l, int(text[i]))
	}
	return l
}

func of(text string) *scan.Scan {
	return scan.New(bytesOf(text)...)
}

// odd are numbers that are no code points, or no signs that a pattern's syntax has; some are like signs in their lowest bits.
var odd = []int{
	-1, -2, -'a', math.MinInt, math.MinInt + 'a', math.MinInt32, 128, 0xC3, 0xFF, 256 + 'a', 256 + '0', 1<<16 + '>', 0xD83D, 0x1F600, api.MaxPoint, api.MaxPoint + 1, 1<<32 + 'u', 1<<40 + '{',
	-256 + 'n', math.MinInt + '0', 0x660, 0x212A, 0x131, 0x17F, 0xFF10, math.MaxInt32, math.MaxInt - 1, math.MaxInt,
}

// stands fails unless a scan stands at a place, ahead of what is left of the code points.
func stands(t *testing.T, s *scan.Scan, points []int, at int) {
	t.Helper()
	p, ok := s.Peek()
	if at == len(points) {
		if s.At() != at || !s.Done() || ok || p != 0 {
			t.Fatal(points, at, s.At(), s.Done(), p, ok)
		}
	} else if s.At() != at || s.Done() || !ok || p != points[at] {
		t.Fatal(points, at, s.At(), s.Done(), p, ok)
	}
}

// runs fails unless Next goes through all that is left, and tells nothing behind it.
func runs(t *testing.T, s *scan.Scan, points []int, at int) {
	t.Helper()
	for ; at < len(points); at++ {
		stands(t, s, points, at)
		if p, ok := s.Next(); !ok || p != points[at] {
			t.Fatal(points, at, p, ok)
		}
	}
	for range 3 {
		stands(t, s, points, len(points))
		if p, ok := s.Next(); ok || p != 0 {
			t.Fatal(points, p, ok)
		}
	}
}

// TestWhole: P7.1, scans of none, of some, of numbers that are no code points, from their beginning to their end.
func TestWhole(t *testing.T) {
	for _, l := range [][]int{nil, {}, {0}, {'a'}, {0, 0}, bytesOf("(a|b)*\\u{41}"), odd, slices.Repeat([]int{7}, 1000)} {
		runs(t, scan.New(l...), l, 0)
	}
}

// TestPeek: P7.1, to look at the next one reads nothing.
func TestPeek(t *testing.T) {
	s := of("ab")
	for range 3 {
		stands(t, s, bytesOf("ab"), 0)
	}
	s.Next()
	for range 3 {
		stands(t, s, bytesOf("ab"), 1)
	}
}

// TestCopy: P7.1, copies at each place: each goes on, and the other one stays.
func TestCopy(t *testing.T) {
	l := append(bytesOf("x12>"), odd...)
	for at := range len(l) + 1 {
		s := scan.New(l...)
		for range at {
			s.Next()
		}
		x := s.Copy()
		y := x.Copy()
		if s == x || s == y || x == y {
			t.Fatal("no other one")
		}
		runs(t, x, l, at)
		stands(t, s, l, at)
		runs(t, s, l, at)
		stands(t, y, l, at)
		runs(t, y, l, at)
		runs(t, s.Copy(), l, len(l))
	}
}

// takes fails unless a text is read just then, from any place on.
func takes(t *testing.T, l []int, text string, want bool) {
	t.Helper()
	for _, ahead := range [][]int{nil, {'a'}, bytesOf("\\ab"), odd} {
		s := scan.New(append(slices.Clone(ahead), l...)...)
		for range ahead {
			s.Next()
		}
		at := len(ahead)
		if want {
			at += len(text)
		}
		if got := s.Take(text); got != want || s.At() != at {
			t.Fatalf("%x: Take(%q): %v, at %d; want %v, %d", l, text, got, s.At(), want, at)
		}
	}
}

// TestTake: P7.2, texts that stand next, and such as do not.
func TestTake(t *testing.T) {
	for _, text := range []string{"", "a", "ab", "abc", "(?<=", "\x00", "\x00\x00", "aé", "\xFF\xFE", strings.Repeat("a", 300)} {
		l := bytesOf(text)
		takes(t, l, text, true)
		takes(t, append(slices.Clone(l), 'a'), text, true)
		takes(t, append(slices.Clone(l), odd...), text, true)
		takes(t, l, text+"a", false)
		takes(t, l, text+"\x00", false)
		for i := range l {
			takes(t, l[:i], text, false)
			for _, c := range append([]int{l[i] + 1, l[i] - 1, l[i] ^ 0x20, l[i] + 256, l[i] - 256, l[i] + 1<<32}, odd...) {
				if c != l[i] {
					turned := slices.Clone(l)
					turned[i] = c
					takes(t, turned, text, false)
				}
			}
		}
	}
	takes(t, nil, "", true)
	takes(t, nil, "a", false)
	takes(t, odd, "", true)
	// A text is its bytes, not its code points.
	takes(t, []int{0xC3, 0xA9}, "é", true)
	takes(t, []int{0xE9}, "é", false)
	takes(t, []int{0xFFFD}, "\xFF", false)
}

// finds fails unless the next one is one of a text's bytes, or none is.
func finds(t *testing.T, l []int, text string, want bool) {
	t.Helper()
	s := scan.New(append([]int{'z'}, l...)...)
	s.Next()
	p, ok := s.Any(text)
	if want && (!ok || p != l[0] || s.At() != 2) || !want && (ok || p != 0 || s.At() != 1) {
		t.Fatalf("%x: Any(%q): %x, %v, at %d", l, text, p, ok, s.At())
	}
}

// TestAny: P7.2, one of some bytes, each byte among all others.
func TestAny(t *testing.T) {
	var all string
	for c := range 256 {
		all += string([]byte{byte(c)})
	}
	for c := range 256 {
		l := []int{c, 'a', 'b'}
		one := all[c : c+1]
		finds(t, l, one, true)
		finds(t, l[:1], one, true)
		finds(t, l, one+one, true)
		finds(t, l, all, true)
		finds(t, l, all[c:], true)
		finds(t, l, all[:c+1], true)
		finds(t, l, all[:c]+all[c+1:], false)
		finds(t, l, "", false)
		finds(t, []int{c + 256, c}, all, false)
		finds(t, []int{c - 256, c}, all, false)
	}
	for _, c := range odd {
		finds(t, []int{c}, all, 0 <= c && c <= 255)
		finds(t, []int{c}, "é€\uFFFD", c == 0xC3)
	}
	for _, text := range []string{"", "a", "\x00", all} {
		finds(t, nil, text, false)
	}
}

// counts fails unless all digits of a text are read, and no more, and are that number.
func counts(t *testing.T, text string, want int, tails ...int) {
	t.Helper()
	for _, behind := range append(tails, '/', ':', 'a') {
		l := append(bytesOf(text), behind, '7')
		s := scan.New(l...)
		if n, many := s.Decimal(); n != want || many != len(text) || s.At() != len(text) {
			t.Fatalf("%.40s: %d, %d, at %d; want %d", text, n, many, s.At(), want)
		}
		if n, many := s.Decimal(); n != 0 || many != 0 || s.At() != len(text) {
			t.Fatalf("%.40s: %d, %d, at %d", text, n, many, s.At())
		}
	}
	s := of(text)
	if n, many := s.Decimal(); n != want || many != len(text) || !s.Done() {
		t.Fatalf("%.40s: %d, %d; want %d", text, n, many, want)
	}
	if n, many := s.Decimal(); n != 0 || many != 0 {
		t.Fatal(n, many)
	}
}

// TestDecimal: P7.3, no digits, few, noughts ahead, about 2^30, very many.
func TestDecimal(t *testing.T) {
	const most = 1 << 30
	tails := append([]int{'a', 'f', 'x', '.', '-', ' ', '>', 0, '0' + 256, '9' - 256}, odd...)
	counts(t, "", 0, tails...)
	counts(t, "0", 0, tails...)
	counts(t, "7", 7, tails...)
	counts(t, "0042", 42, tails...)
	for n := range 2000 {
		counts(t, strconv.Itoa(n), n)
		counts(t, "000"+strconv.Itoa(n), n)
	}
	for n := 1; n < most; n *= 3 {
		counts(t, strconv.Itoa(n), n)
	}
	for n := most - 40; n < most+40; n++ {
		counts(t, strconv.Itoa(n), min(n, most))
		counts(t, strings.Repeat("0", 100)+strconv.Itoa(n), min(n, most))
		for d := range 10 {
			counts(t, strconv.Itoa(n/10)+strconv.Itoa(d), min(n/10*10+d, most))
			counts(t, strconv.Itoa(n)+strconv.Itoa(d), most)
		}
	}
	for _, n := range []int{most * 2, 1 << 31, 1<<31 - 1, 1 << 32, 1<<32 + 5, 1 << 62, math.MaxInt} {
		counts(t, strconv.Itoa(n), most)
	}
	counts(t, strings.Repeat("9", 65536), most)
	for _, n := range []int{19, 20, 21, 40, 1000} {
		for d := range 10 {
			want := most
			if d == 0 {
				want = 0
			}
			counts(t, strings.Repeat(strconv.Itoa(d), n), want)
			counts(t, "1"+strings.Repeat(strconv.Itoa(d), n), most)
		}
		counts(t, strings.Repeat("0", n)+"1", 1)
	}
	// Of digits in other scripts none is one.
	for _, c := range []int{0x660, 0xFF10, '0' + 256, '9' - 256, 1<<32 + '5', '0' - 1, '9' + 1, 'a', 'A'} {
		s := scan.New(c, '1')
		if n, many := s.Decimal(); n != 0 || many != 0 || s.At() != 0 {
			t.Error(c, n, many)
		}
	}
}

// named fails unless a name and > are read, whatever stands behind them; "" of none.
func named(t *testing.T, l []int, want string) {
	t.Helper()
	for _, ahead := range [][]int{nil, {'a'}, {'7'}, bytesOf("k<"), odd} {
		s := scan.New(append(slices.Clone(ahead), l...)...)
		for range ahead {
			s.Next()
		}
		at := len(ahead)
		if want != "" {
			at += len(want) + 1
		}
		if name, ok := s.Name(); name != want || ok != (want != "") || s.At() != at {
			t.Fatalf("%x: %q, %v, at %d; want %q, %d", l, name, ok, s.At(), want, at)
		}
	}
}

// TestName: P7.5, names of each length, of each sign, with > behind them and without.
func TestName(t *testing.T) {
	const first = "ABCDEFGHIJKLMNOPQRSTUVWXYZabcdefghijklmnopqrstuvwxyz_$"
	const later = first + "0123456789"
	for _, name := range []string{"a", "Z", "_", "$", "x_1", "$0", "a0123456789", first[:40], later[24:], strings.Repeat("a", 39), strings.Repeat("_", 40)} {
		named(t, bytesOf(name+">"), name)
		named(t, bytesOf(name+">>"), name)
		named(t, append(bytesOf(name+">"), odd...), name)
		named(t, bytesOf(name+" >"), "")
		named(t, bytesOf("7"+name+">"), "")
		for end := range len(name) + 1 {
			named(t, bytesOf(name[:end]), "")
			named(t, bytesOf(name[:end]+"<>"), "")
			named(t, append(bytesOf(name[:end]), 256+'>', '>'), "")
			named(t, append(bytesOf(name[:end]), '>'-256, '>'), "")
		}
	}
	for n := range 50 {
		want := strings.Repeat("b", n)
		if n > 40 {
			want = ""
		}
		named(t, bytesOf(strings.Repeat("b", n)+">"), want)
		named(t, bytesOf(strings.Repeat("b", n)), "")
	}
	for c := -300; c < 600; c++ {
		sign := ""
		if 0 <= c && c < 128 {
			sign = string(rune(c))
		}
		one, two := "", ""
		if sign != "" && strings.Contains(first, sign) {
			one = sign
		}
		if sign != "" && strings.Contains(later, sign) {
			two = "a" + sign
		}
		if sign == ">" {
			two = "a"
		}
		named(t, []int{c, '>'}, one)
		named(t, []int{'a', c, '>'}, two)
	}
	for _, c := range odd {
		named(t, []int{c, '>'}, "")
		named(t, []int{'a', c, '>'}, "")
		named(t, []int{'a', c}, "")
	}
	named(t, nil, "")
	named(t, bytesOf(">"), "")
	named(t, bytesOf(strings.Repeat("c", 1<<16)+">"), "")
}
