package class_test

import (
	"math/rand"
	"slices"
	"strings"
	"testing"

	"tinder/api"
	"tinder/class"
	"tinder/fold"
	"tinder/ranges"
	"tinder/scan"
)

// TestSets: P8.3, what is told is a set, with the flag Fold a closed one; and with ^ and without, each is what the other one does not have.
func TestSets(t *testing.T) {
	r := rand.New(rand.NewSource(83))
	all := append(wrong(), letters(), letters(), letters(), api.Tables{})
	right := 0
	for range 20000 {
		points, flags, x := append(some(r), ']'), allFlags()[r.Intn(16)], all[r.Intn(len(all))]
		if points[0] == '^' {
			continue
		}
		s, not := scan.New(points...), scan.New(append([]int{'^'}, points...)...)
		set, e := class.Read(s, flags, x)
		rest, notE := class.Read(not, flags, x)
		if e != notE || s.At()+1 != not.At() {
			t.Fatal(points, e, notE, s.At(), not.At())
		}
		if !ranges.Right(set) || !ranges.Right(rest) {
			t.Fatal(points, set, rest)
		}
		if e != api.OK {
			continue
		}
		right++
		if !slices.Equal(rest, others(set)) || !slices.Equal(set, others(rest)) {
			t.Fatal(points, set, rest)
		}
		if flags.Fold && (!slices.Equal(fold.Close(x, set), set) || !slices.Equal(fold.Close(x, rest), rest)) {
			t.Fatal(points, set, rest)
		}
	}
	if right < 5000 {
		t.Error(right)
	}
}

// TestEscapeSets: P8.3, what is told of an escape is a set, and of a small sign and its great one all code points; without the flag Fold each once.
func TestEscapeSets(t *testing.T) {
	for _, x := range append(wrong(), letters(), api.Tables{}) {
		for _, flags := range allFlags() {
			for _, text := range []string{"d", "s", "w", "p{Lu}", "p{None}", "p{All}", "p{" + name40 + "}"} {
				small, is, e := class.Escape(scan.New(signs(text)...), flags, x)
				great, isToo, eToo := class.Escape(scan.New(signs(strings.ToUpper(text[:1])+text[1:])...), flags, x)
				if !is || !isToo || e != eToo || !ranges.Right(small) || !ranges.Right(great) {
					t.Fatal(text, is, isToo, e, eToo)
				}
				if e != api.OK {
					continue
				}
				if !slices.Equal(ranges.Join(small, great), of(0, top)) || !flags.Fold && len(ranges.Meet(small, great)) > 0 {
					t.Fatal(text, small, great)
				}
			}
		}
	}
}

// TestMoreFolds: P8.3, more folds make the set of parts no less. (Not so of \W: the words are more.)
func TestMoreFolds(t *testing.T) {
	r := rand.New(rand.NewSource(830))
	more := 0
	for range 20000 {
		points := append(some(r), ']')
		if strings.Contains(textOf(points), "\\W") || points[0] == '^' {
			continue
		}
		x, fewer := letters(), letters()
		fewer.Folds = slices.DeleteFunc(fewer.Folds, func(api.Fold) bool { return r.Intn(3) == 0 })
		set, e := class.Read(scan.New(points...), withFold, x)
		part, fewerE := class.Read(scan.New(points...), withFold, fewer)
		plain, plainE := class.Read(scan.New(points...), bare, x)
		if e != fewerE || e != plainE {
			t.Fatal(points, e, fewerE, plainE)
		}
		if !slices.Equal(ranges.Join(set, part), set) || !slices.Equal(ranges.Join(part, plain), part) {
			t.Fatal(points, set, part, plain)
		}
		if !slices.Equal(set, part) {
			more++
		}
	}
	if more < 1000 {
		t.Error(more)
	}
}

// TestOrder: P8.3, what stands in brackets is a set: it hangs on no order of its parts, and on no part that stands twice.
func TestOrder(t *testing.T) {
	r := rand.New(rand.NewSource(831))
	parts := []string{"a", "k", "0-9", "\\d", "\\W", "\\p{Lu}", "\\P{=}", "\\b", "\\-", "A-F", "\\u{212A}", "\\S", "!", "[", "\\]", "\\x41"}
	for range 3000 {
		var l []string
		for range r.Intn(6) {
			l = append(l, parts[r.Intn(len(parts))])
		}
		flags := allFlags()[r.Intn(16)]
		want, e := class.Read(scan.New(signs(strings.Join(l, "")+"]")...), flags, letters())
		if e != api.OK {
			t.Fatal(l, e)
		}
		l = append(l, l...)
		r.Shuffle(len(l), func(i, j int) { l[i], l[j] = l[j], l[i] })
		if set, e := class.Read(scan.New(signs(strings.Join(l, "")+"]")...), flags, letters()); e != api.OK || !slices.Equal(set, want) {
			t.Fatal(l, set, want, e)
		}
	}
}
