package scan_test

import (
	"slices"
	"testing"

	"tinder/scan"
)

// answers are what all calls tell of a scan, asked of copies from each place on.
func answers(s *scan.Scan) []reading {
	var l []reading
	for walk := s.Copy(); ; walk.Next() {
		for _, c := range calls() {
			l = append(l, c.asks(walk.Copy()))
		}
		if walk.Done() {
			return l
		}
	}
}

// TestMemory: R3, the numbers that New is given are not changed, not even behind their end, and not kept: they may be written over.
func TestMemory(t *testing.T) {
	for _, text := range append(forms(), "", "ab12>x_1>>", "123", "a>", "(?<n>a)\\k<n>") {
		row := append(bytesOf(text), 11, 12, 13, 14)
		before := slices.Clone(row)
		given := row[:len(text)]
		s := scan.New(given...)
		x := s.Copy()
		want := answers(s)
		if !slices.Equal(row, before) {
			t.Fatal(row, before)
		}
		for i := range row {
			row[i] = 'n'
		}
		if !slices.Equal(answers(s), want) || !slices.Equal(answers(x), want) {
			t.Fatal(text)
		}
		for i := range row {
			row[i] = -1
		}
		runs(t, s, bytesOf(text), 0)
		runs(t, x, bytesOf(text), 0)
		for _, p := range row {
			if p != -1 {
				t.Fatal(row)
			}
		}
	}
}

// TestOneRow: R3, two scans of one row of numbers go on apart.
func TestOneRow(t *testing.T) {
	row := bytesOf("12n")
	a, b := scan.New(row...), scan.New(row...)
	if n, many := a.Decimal(); n != 12 || many != 2 {
		t.Error(n, many)
	}
	stands(t, b, row, 0)
	runs(t, b, row, 0)
	stands(t, a, row, 2)
	runs(t, a, row, 2)
}

// TestAgain: R4, one thing is answered alike each time.
func TestAgain(t *testing.T) {
	for _, text := range forms() {
		want := answers(of(text))
		for range 3 {
			if !slices.Equal(answers(of(text)), want) {
				t.Fatal(text)
			}
		}
	}
}

// unmade fails unless each call of a scan that nobody made does nothing, and tells nothing.
func unmade(t *testing.T, s *scan.Scan) {
	t.Helper()
	for range 2 {
		if s.Copy() != nil || s.At() != 0 || s.Done() {
			t.Fatal(s.Copy(), s.At(), s.Done())
		}
		if p, ok := s.Peek(); p != 0 || ok {
			t.Fatal("Peek", p, ok)
		}
		if p, ok := s.Next(); p != 0 || ok {
			t.Fatal("Next", p, ok)
		}
		for _, text := range []string{"", "a", "n1", "1", "\x00"} {
			if s.Take(text) {
				t.Fatal("Take", text)
			}
			if p, ok := s.Any(text); p != 0 || ok {
				t.Fatal("Any", text, p, ok)
			}
		}
		if n, digits := s.Decimal(); n != 0 || digits != 0 {
			t.Fatal("Decimal", n, digits)
		}
		if p, ok := s.Escape(); p != 0 || ok {
			t.Fatal("Escape", p, ok)
		}
		if name, ok := s.Name(); name != "" || ok {
			t.Fatal("Name", name, ok)
		}
	}
}

// TestUnmade: R5, a nil scan, one that nobody made, and what was copied by hand.
func TestUnmade(t *testing.T) {
	var none *scan.Scan
	unmade(t, none)
	unmade(t, &scan.Scan{})
	unmade(t, new(scan.Scan))
	for _, text := range []string{"", "n", "1", "a>", "n1>"} {
		made := of(text)
		byHand := *made
		unmade(t, &byHand)
		made.Next()
		byHand = *made
		unmade(t, &byHand)
		stands(t, made, bytesOf(text), min(1, len(text)))
	}
}

// TestNilAndEmpty: R6, no numbers, nil or not, are one scan, which is made.
func TestNilAndEmpty(t *testing.T) {
	for _, s := range []*scan.Scan{scan.New(), scan.New(nil...), scan.New([]int{}...), scan.New(make([]int, 0, 9)...), scan.New().Copy()} {
		if s == nil || s.Copy() == nil || !s.Done() || !s.Take("") || s.Take("\x00") {
			t.Fatal(s)
		}
		runs(t, s, nil, 0)
		if !slices.Equal(answers(s), answers(scan.New())) {
			t.Fatal(answers(s))
		}
	}
}
