package scan_test

import (
	"math/rand"
	"slices"
	"strings"
	"testing"

	"tinder/scan"
)

// pieces are what patterns are made of, whole and in part.
var pieces = []string{
	"\\", "u", "\\u", "{", "}", "uD83D", "\\uDE00", "D83D", "DE00", "u{41}", "{10FFFF}", "{110000}", "41", "0", "9", "123", "1073741824", "x4", "x41", "ca", "c1", "n", "name>", "a_1>", ">", "$", "<", "é",
	"1a>", strings.Repeat("a", 40), strings.Repeat("_", 41), "(", ")", "[", "|", "/", "a", "b", "00",
}

// some are code points of a few pieces, and some odd ones amid.
func some(r *rand.Rand) []int {
	var l []int
	for range r.Intn(8) {
		if r.Intn(8) == 0 {
			l = append(l, odd[r.Intn(len(odd))])
		} else {
			l = append(l, bytesOf(pieces[r.Intn(len(pieces))])...)
		}
	}
	return l
}

// TestWalks: P7.1 to P7.6, calls in any order, of scans and of copies of them, held against the chapter's words; no call moves another scan.
func TestWalks(t *testing.T) {
	r := rand.New(rand.NewSource(7))
	all := calls()
	for range 20000 {
		l := some(r)
		scans, models := []*scan.Scan{scan.New(l...)}, []model{{points: l}}
		for range 12 {
			i := r.Intn(len(scans))
			if r.Intn(4) == 0 {
				scans, models = append(scans, scans[i].Copy()), append(models, models[i])
				continue
			}
			c := all[r.Intn(len(all))]
			before := models[i].at
			want := c.means(&models[i])
			got := c.asks(scans[i])
			if got != want {
				t.Fatalf("%x from %d on: %v: %v; want %v", l, before, c, got, want)
			}
			// The place never goes back, nor beyond the end, and stays where nothing is read.
			if got.at < before || got.at > len(l) || !got.ok && got.at != before {
				t.Fatalf("%x from %d on: %v: %v", l, before, c, got)
			}
			for k, s := range scans {
				stands(t, s, l, models[k].at)
			}
		}
	}
}

// TestBehind: P7.6, what is told hangs on what stands behind the place alone: whatever is ahead of it, and however it was read.
func TestBehind(t *testing.T) {
	r := rand.New(rand.NewSource(76))
	all := calls()
	for range 20000 {
		ahead, l := some(r), some(r)
		s, short := scan.New(slices.Concat(ahead, l)...), scan.New(l...)
		for s.At() < len(ahead) {
			all[r.Intn(len(all))].asks(s)
			if s.At() < len(ahead) && r.Intn(2) == 0 {
				s.Next()
			}
		}
		for short.At()+len(ahead) < s.At() {
			short.Next()
		}
		for range 6 {
			c := all[r.Intn(len(all))]
			want := c.asks(short)
			want.at += len(ahead)
			if got := c.asks(s); got != want || s.Done() != short.Done() {
				t.Fatalf("%x, %x: %v: %v; want %v", ahead, l, c, got, want)
			}
		}
	}
}

// TestGreat: R1, R7, scans of very many code points come to an end, whatever is asked at each place.
func TestGreat(t *testing.T) {
	const n = 1 << 20
	for _, text := range []string{"0", "9", "a", "\\", "u{0"} {
		s := of(strings.Repeat(text, n) + "}>")
		x := s.Copy()
		if name, ok := x.Name(); ok || name != "" || x.At() != 0 {
			t.Error(text, name)
		}
		if x.Take(strings.Repeat(text, n) + "]") {
			t.Error(text)
		}
		if !x.Take(strings.Repeat(text, n)) || x.At() != n*len(text) {
			t.Error(text)
		}
		if value, many := s.Decimal(); text == "9" && (value != 1<<30 || many != n) || text == "0" && (value != 0 || many != n) {
			t.Error(text, value, many)
		}
	}
	s := of("u{" + strings.Repeat("0", n) + "41}")
	if c, ok := s.Escape(); !ok || c != 'A' || !s.Done() {
		t.Error(c, ok)
	}
	s = of("u{" + strings.Repeat("1", n) + "}")
	if c, ok := s.Escape(); ok || c != 0 || s.At() != 0 {
		t.Error(c, ok)
	}
	s = of(strings.Repeat("uD83D\\uDE00", 1<<16))
	for !s.Done() {
		if c, ok := s.Escape(); !ok || c != 0x1F600 {
			t.Fatal(s.At(), c, ok)
		}
	}
}
