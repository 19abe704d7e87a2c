package class_test

import (
	"reflect"
	"slices"
	"testing"

	"tinder/api"
	"tinder/class"
	"tinder/scan"
)

// texts are of each sort of answer.
var texts = []string{
	"d", "D", "s", "S", "w", "W", "p{Lu}", "P{Lu}", "p{=}", "p{None}", "P{None}", "p{All}", "p{No}", "p{", "n", "",
	"]", "^]", "a]", "a-z]", "^a-z]", "\\d]", "\\D]", "\\s]", "\\S]", "\\w]", "\\W]", "^\\w]", "\\p{Lu}]", "^\\p{Lu}]", "\\P{Lu}]", "\\p{All}]", "\\p{None}]", "\\p{No}]", "z-a]", "\\d\\s\\w\\p{E}-]", "\\p{" + name40 + "}]",
}

// answers are all sets that the calls tell of the texts, with each flag.
func answers(x api.Tables) [][]api.Range {
	var l [][]api.Range
	for _, text := range texts {
		for _, flags := range allFlags() {
			set, _, _ := class.Escape(scan.New(signs(text)...), flags, x)
			l = append(l, set)
			set, _ = class.Read(scan.New(signs(text)...), flags, x)
			l = append(l, set)
		}
	}
	return l
}

// guarded are tables whose rows lie within longer ones: what a call writes, even behind their ends, is seen in the longer ones.
func guarded() (x, whole api.Tables) {
	whole = letters()
	for i := range whole.Props {
		whole.Props[i].Set = append(whole.Props[i].Set, of(7, 9, 3, 1)...)
	}
	x.Props = slices.Clone(whole.Props)
	for i := range x.Props {
		x.Props[i].Set = x.Props[i].Set[:len(x.Props[i].Set)-2]
	}
	whole.Folds = append(whole.Folds, rowOf(5, 5, 1, 2)...)
	x.Folds = whole.Folds[:len(whole.Folds)-2]
	x.Props = append(x.Props, api.Prop{Name: "behind"})[:len(x.Props)]
	return x, whole
}

// spoil writes into all of a row's memory, up to its capacity.
func spoil(l []api.Range) {
	for i := range l[:cap(l)] {
		l[:cap(l)][i] = api.Range{Lo: 99, Hi: -99}
	}
}

// TestMemory: R3, no argument is changed, not even behind its end, and each set that is handed out is new memory, up to its capacity.
func TestMemory(t *testing.T) {
	x, whole := guarded()
	_, before := guarded()
	want := answers(x)
	for range 2 {
		l := answers(x)
		for _, set := range l {
			spoil(set)
		}
		if !reflect.DeepEqual(whole, before) || x.Props[:cap(x.Props)][len(x.Props)].Name != "behind" {
			t.Fatal(whole, before)
		}
	}
	for i, set := range answers(x) {
		if !slices.Equal(set, want[i]) {
			t.Fatal(i, set, want[i])
		}
	}
}

// TestApart: R3, R4, one thing asked twice is answered alike, in memories apart.
func TestApart(t *testing.T) {
	x, _ := guarded()
	first, second, want := answers(x), answers(x), answers(letters())
	for i := range first {
		spoil(first[i])
		if !slices.Equal(second[i], want[i]) {
			t.Fatal(i, second[i], want[i])
		}
	}
	// No two answers share any memory, of the same call or of others.
	for i := range second {
		spoil(second[i])
		for j := i + 1; j < len(second); j++ {
			if len(second[j]) > 0 && !slices.Equal(second[j], want[j]) {
				t.Fatal(i, j, second[j], want[j])
			}
		}
	}
}

// TestNotKept: R3, what is told stays as it is when the tables are written over, and is told anew of what then stands there.
func TestNotKept(t *testing.T) {
	x, whole := guarded()
	want, none := answers(letters()), answers(api.Tables{})
	l := answers(x)
	for i := range whole.Props {
		spoil(whole.Props[i].Set)
	}
	for i := range whole.Folds {
		whole.Folds[i] = api.Fold{From: -1, To: -1}
	}
	for i := range x.Props {
		x.Props[i].Name = ""
	}
	for i := range l {
		if !slices.Equal(l[i], want[i]) {
			t.Fatal(i, l[i], want[i])
		}
	}
	for i, set := range answers(x) {
		if !slices.Equal(set, none[i]) {
			t.Fatal(i, set, none[i])
		}
	}
}

// TestScan: R3, of a scan the place alone is changed, and it is not kept: it goes on by itself, and so does a copy.
func TestScan(t *testing.T) {
	for _, text := range texts {
		for _, tail := range []string{"", "a\\d]", "d]"} {
			points := signs(text + tail)
			s := scan.New(points...)
			x := s.Copy()
			class.Read(s, withFold, letters())
			left(t, s, points)
			left(t, x, points)
			if x.At() != 0 {
				t.Fatal(text, x.At())
			}
			class.Escape(x, withFold, letters())
			at := s.At()
			left(t, x, points)
			x.Next()
			class.Read(scan.New(points...), bare, letters())
			if s.At() != at {
				t.Fatal(text, s.At(), at)
			}
			left(t, s, points)
		}
	}
}

// TestAgain: R4, one thing is answered alike each time, on one scan from place to place.
func TestAgain(t *testing.T) {
	points := signs("\\p{Lu}k]^\\W]a-]\\d-z]z-a]x]")
	var first []string
	for round := range 3 {
		s := scan.New(points...)
		var l []string
		for !s.Done() {
			set, e := class.Read(s, withFold, letters())
			l = append(l, written(set)+e.Error())
		}
		if round == 0 {
			first = l
		}
		if !slices.Equal(l, first) || len(l) < 5 {
			t.Fatal(l, first)
		}
	}
}
