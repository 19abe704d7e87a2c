package code_test

import (
	"slices"
	"strings"
	"testing"

	"tinder/api"
)

// odd are lines that are no instruction's.
var odd = []string{
	"", " ", "  ", "\t", "\r", "\x00", "\xFF", "é", "-", "0", "1", ",", "!", "<", "set", "set ", "set  ", "set  61", " set 61", "set 61 ", "set 61  ", "set\t61", "set 61\r", "set 61 62", "set - -", "set -,61", "set 61,-", "set --", "set -61", "set 61-", "set 61,", "set ,61", "set ,", "set 61,,62", "set 61--62", "set 61-62-63", "set 61-61", "set 0-0", "set 61,62-62", "set 061", "set 00", "set 61-062", "set 061-62", "set 4A", "set A", "set 61-7A", "set 6g", "set 0x61", "set +61", "set 6_1", "set 61;62", "set 61, 62", "set 61 -62",
	"set 80000000", "set 100000000", "set 0-80000000", "set 1,ffffffff", "set 10000000000000000", "set 10000000000000061", "set<", "set<61", "set <", "set < 61", "set<< 61", "set> 61", "set! 61", "set<! 61", "Set 61", "SET 61", "sets 61", "se 61", "et 61", "setz 61",
	"split", "split ", "split 0", "split 0 ", "split  0 1", "split 0  1", "split 0 1 ", "split 0 1 2", "split 0,1", "split -1 0", "split 0 -1", "split +1 0", "split 00 1", "split 0 01", "split 0 2147483648", "split 2147483648 0", "split a 0", "split 0 a", "split 0x1 1", "split< 0 1", "split! 0 1", "split 0 -",
	"jump", "jump ", "jump  0", "jump 0 ", "jump 0 1", "jump -", "jump -0", "jump -1", "jump +0", "jump 00", "jump 01", "jump 1_0", "jump 0x0", "jump a", "jump 1a", "jump 1.0", "jump 1e3", "jump 2147483648", "jump 4294967296", "jump 9223372036854775808", "jump 18446744073709551616", "jump 18446744073709551617", "jump 99999999999999999999999999999999", "jump< 0", "jump! 0", "jumps 0", "jump٣ 0", "jump ٣", "jump 0\x00",
	"mark", "mark ", "mark 0 0", "mark< 0", "mark! 0", "mark 00", "mark -", "marks 0", "check", "check 0 0", "check< 0", "check! 0", "check 00", "check x", "checks 0",
	"forget", "forget 1", "forget 1 ", "forget  1 2", "forget 1 2 3", "forget 01 2", "forget 1 02", "forget 1-2", "forget< 1 2", "forget! 1 2", "forget 1 2147483648",
	"open", "open 1 1", "open< 1", "open! 1", "open 01", "opens 1", "close", "close 1 1", "close< 1", "close! 1", "close 01", "closes 1", "back", "back<", "back 1 1", "back! 1", "back<1", "back< 1 ", "back< 01", "back<< 1", "back <1", "back < 1", "backs 1",
	"spot", "spot ", "spot start ", "spot  start", "spot Start", "spot none", "spot start end", "spot 1", "spot 0", "spot -", "spot starts", "spot star", "spot words", "spot in", "spot< start", "spot! start", "spotstart", "start", "end start", "word", "inner",
	"look", "look!", "look 0 1", "look! 0 1", "look!0", "look !0", "look ! 0", "look!! 0", "look< 0", "look!< 0", "look 00", "look! 00", "look ! ", "atomic", "atomic 0 0", "atomic< 0", "atomic! 0", "atomic 00", "atomics 0",
	"yes ", " yes", "yes 0", "yes<", "yes!", "yes -", "yess", "ye", "Yes", "yes\t", "yes\r", "end ", " end", "end 0", "end<", "end!", "end -", "ends", "en", "END", "end\r", "end\x00",
	"program", "program 0 0 plain", "words", "words -", "words 61", "folds", "folds 41>61", "plain", "lines",
}

// right are lines that are instructions', whatever their numbers are; none of them is right in a program of so few.
var right = []string{
	"set 5-3", "set 61,61", "set 61-62,62", "set 61,62", "set 62,61", "set 110000", "set 7fffffff", "set 0-110000", "set 1-7fffffff", "set< 5-3", "set< 62,61", "set< 7fffffff", "split 0 99", "split 99 0", "split 2147483647 2147483647", "jump 99", "jump 2147483647", "mark 2", "mark 2147483647", "check 2", "check 2147483647", "forget 0 0", "forget 0 1", "forget 2 1", "forget 1 3", "forget 2147483647 2147483647", "open 0", "open 3", "open 2147483647", "close 0", "close 3", "close 2147483647", "back 0", "back 3", "back 2147483647", "back< 0", "back< 3", "back< 2147483647", "look 99", "look 2147483647", "look! 99", "look! 2147483647", "atomic 99", "atomic 2147483647", "end",
}

// TestOddLines: P14.3, lines that are none, wherever they stand; what stands behind them is not asked any more.
func TestOddLines(t *testing.T) {
	for _, text := range odd {
		stops(t, headed(text+"\nend\n"), 4)
		stops(t, headed(text+"\n"), 4)
		stops(t, headed(text), 4)
		stops(t, headed("yes\nset 61\n"+text+"\nend\n"), 6)
		stops(t, headed("yes\n"+text+"\n"+text+"\n\n"), 5)
		stops(t, headed("end\n"+text+"\n"), 5)
		// A line that is one, but not right, is none of the faults that are told.
		stops(t, headed("jump 99\nend\n"+text+"\n"), 6)
		if !strings.HasPrefix(text, "program") {
			stops(t, text+"\nwords -\nfolds\nend\n", 1)
		}
	}
}

// TestRightLines: P14.3, lines whose numbers alone are not right are lines: told is that one is missing behind all.
func TestRightLines(t *testing.T) {
	for _, text := range right {
		stops(t, headed(text+"\nend\n"), 6)
		stops(t, headed(text+"\n"+text+"\n"+text+"\nend\n"), 8)
		stops(t, headed("yes\n"+text+"\nyes\nend\n"), 8)
		stops(t, headed(text+"\nyes"), 5)
		stops(t, headed(text+"\nend\n\n"), 6)
	}
	stops(t, headed("yes\n"), 5)
	stops(t, headed("end\nyes\n"), 6)
	stops(t, headed("end\nend\n"), 6)
	stops(t, headed(strings.Repeat("yes\n", 2000)+"end\n"), 2005)
}

// TestEnds: P14.3, texts that end too early, at each byte.
func TestEnds(t *testing.T) {
	p := program(split(1, 3), set('a', 'z'), lookNot(0), backLeft(2), spot(api.SpotInner), forget(1, 2))
	p.Words, p.Folds = row('0', '9', '_', '_'), folds('A', 'a', 'B', 'b')
	text := modelText(p)
	lines(t, p, text)
	for at := range len(text) {
		stops(t, text[:at], 1+strings.Count(text[:at], "\n"))
		reads(t, text[:at]+"\n")
		reads(t, text[at:])
	}
	stops(t, "", 1)
	stops(t, "\n", 1)
	stops(t, "\n\n\n", 1)
	stops(t, "\n"+text, 1)
	stops(t, " "+text, 1)
	stops(t, text+"\n", 11)
	stops(t, text+" ", 11)
	stops(t, text+text, 11)
	stops(t, text+"end\n", 12)
	stops(t, strings.ReplaceAll(text, "\n", "\r\n"), 1)
	stops(t, strings.ReplaceAll(text, "\n", "\r"), 1)
	stops(t, strings.ReplaceAll(text, "\n", " "), 1)
	stops(t, strings.ToUpper(text), 1)
	stops(t, "\xEF\xBB\xBF"+text, 1)
}

// TestFirstLine: P14.3, the program's line.
func TestFirstLine(t *testing.T) {
	rest := "\nwords -\nfolds\nend\n"
	for text, want := range map[string]int{
		"program 0 0 plain": 0, "program 20 2000 lines": 0, "program 21 0 plain": 5, "program 0 2001 plain": 5, "program 2147483647 2147483647 lines": 5,
		"": 1, "program": 1, "program ": 1, "program 0": 1, "program 0 0": 1, "program 0 0 ": 1, "program 0 0 plain ": 1, "program 0 0 lines plain": 1, "program 0 0 Plain": 1, "program 0 0 line": 1, "program 0 0 plains": 1, "program 0 0 0": 1, "program 0 plain": 1, "program plain": 1, "program 0  0 plain": 1, "program  0 0 plain": 1, " program 0 0 plain": 1, "program 00 0 plain": 1, "program 0 00 plain": 1, "program 01 0 plain": 1, "program 0 a plain": 1, "program -1 0 plain": 1, "program 0 -1 plain": 1, "program +1 0 plain": 1, "program 2147483648 0 plain": 1, "program 0 2147483648 plain": 1, "program 0 0 -": 1, "program - - plain": 1, "programs 0 0 plain": 1, "Program 0 0 plain": 1, "words -": 1, "folds": 1, "end": 1, "plain": 1,
	} {
		if got := reads(t, text+rest); got.line != want {
			t.Errorf("%q: %d", text, got.line)
		}
		if want == 1 {
			stops(t, text, 1)
			stops(t, text+"\n", 1)
			stops(t, text+"\n\n\n\n", 1)
		}
	}
}

// TestSecondLine: P14.3, the words' line.
func TestSecondLine(t *testing.T) {
	for text, want := range map[string]int{
		"words -": 0, "words 61": 0, "words 61-7a": 0, "words 0-10ffff": 0, "words 30-39,41-5a,5f,61-7a": 0, "words 5-3": 5, "words 61,62": 5, "words 61,61": 5, "words 110000": 5, "words 7fffffff": 5, "words 1-7fffffff": 5,
		"": 2, "words": 2, "words ": 2, "words  -": 2, "words - ": 2, "words - -": 2, "words 61 62": 2, "words 61,": 2, "words ,61": 2, "words 61-61": 2, "words 4A": 2, "words 061": 2, "words 80000000": 2, "words 61-": 2, "words -61": 2, "words< 61": 2, "words! -": 2, "word 61": 2, "Words -": 2, "word -": 2, "set 61": 2, "set -": 2, "program 0 0 plain": 2, "folds": 2, "end": 2, "-": 2,
	} {
		if got := reads(t, "program 0 0 plain\n"+text+"\nfolds\nend\n"); got.line != want {
			t.Errorf("%q: %d", text, got.line)
		}
		if want == 2 {
			stops(t, "program 99 0 lines\n"+text, 2)
			stops(t, "program 99 0 lines\n"+text+"\n\n", 2)
		}
	}
}

// TestThirdLine: P14.3, the folds' line.
func TestThirdLine(t *testing.T) {
	for text, want := range map[string]int{
		"folds": 0, "folds 41>61": 0, "folds 41>61 42>62 212a>6b": 0, "folds 0>10ffff": 0, "folds 41>41": 5, "folds 42>62 41>61": 5, "folds 41>61 61>62": 5, "folds 41>61 41>61": 5, "folds 110000>1": 5, "folds 7fffffff>7fffffff": 5, "folds 1>110000": 5, "folds 0>0": 5,
		"": 3, "folds ": 3, "folds  ": 3, "folds -": 3, "folds 41": 3, "folds 41>": 3, "folds >61": 3, "folds >": 3, "folds 41>61 ": 3, "folds  41>61": 3, "folds 41>61  42>62": 3, "folds 41>61,42>62": 3, "folds 41 > 61": 3, "folds 41>61>62": 3, "folds 41>>61": 3, "folds 41-61": 3, "folds 41<61": 3, "folds 041>61": 3, "folds 41>061": 3, "folds 4A>61": 3, "folds 41>6A": 3, "folds 80000000>1": 3, "folds 1>80000000": 3, "folds 41>61 42": 3, "fold 41>61": 3, "Folds": 3, "folds< 41>61": 3, "folds!": 3, "folds41>61": 3, "words -": 3, "set -": 3, "end": 3, "program 0 0 plain": 3,
	} {
		if got := reads(t, "program 0 0 plain\nwords -\n"+text+"\nend\n"); got.line != want {
			t.Errorf("%q: %d", text, got.line)
		}
		if want == 3 {
			stops(t, "program 99 0 lines\nwords 5-3\n"+text, 3)
			stops(t, "program 99 0 lines\nwords 5-3\n"+text+"\n\nend\n", 3)
		}
	}
}

// TestOtherOrders: P14.3, the lines that a program begins with stand in their order, and once.
func TestOtherOrders(t *testing.T) {
	l := []string{"program 0 0 plain\n", "words -\n", "folds\n", "end\n", ""}
	for _, a := range l {
		for _, b := range l {
			for _, c := range l {
				for _, d := range l {
					got := reads(t, a+b+c+d)
					if is := slices.Equal([]string{a, b, c, d}, l[:4]); is != (got.e == api.OK) {
						t.Errorf("%q", a+b+c+d)
					}
				}
			}
		}
	}
}

// TestAllPieces: P14.3, all texts of a few pieces, as each of the lines, held against the chapter's words.
func TestAllPieces(t *testing.T) {
	t.Parallel()
	for _, c := range []struct {
		ahead, behind string
		most          int
		pieces        []string
	}{
		{headed(""), "\nend\n", 5, []string{"set", "<", " ", "-", ",", "0", "61", "a", "F"}},
		{headed(""), "\nend\n", 5, []string{"split", "forget", " ", "0", "1", "2", "-", "2147483648"}},
		{headed(""), "\nend\n", 4, []string{"jump", "mark", "check", "open", "close", "back", "look", "atomic", "<", "!", " ", "0", "1"}},
		{headed(""), "end\n", 4, []string{"spot", "start", "end", "word", "inner", "yes", " ", "\n"}},
		{"program 0 0 plain\n", "\nfolds\nend\n", 5, []string{"words", " ", "-", ",", "1", "5", "e"}},
		{"program 0 0 plain\nwords -\n", "\nend\n", 6, []string{"folds", " ", ">", "1", "2", "0"}},
		{"", "\nwords -\nfolds\nend\n", 6, []string{"program", " ", "0 ", "1 ", "0", "plain", "lines"}},
		{"", "", 6, []string{"program 0 0 lines\n", "words -\n", "folds\n", "end\n", "\n", "yes"}},
	} {
		whole := 0
		for n := range c.most + 1 {
			for text := range texts(n, c.pieces...) {
				whole += count(reads(t, c.ahead+text+c.behind).e == api.OK)
			}
		}
		if whole == 0 {
			t.Error(c)
		}
	}
}

// texts are all texts of so many of some pieces.
func texts(n int, pieces ...string) func(yield func(string) bool) {
	return func(yield func(string) bool) {
		if n == 0 {
			yield("")
			return
		}
		for head := range texts(n-1, pieces...) {
			for _, piece := range pieces {
				if !yield(head + piece) {
					return
				}
			}
		}
	}
}

func count(is bool) int {
	if is {
		return 1
	}
	return 0
}
