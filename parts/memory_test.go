package parts_test

import (
	"slices"
	"testing"

	"tinder/api"
	"tinder/parts"
)

// behind is what stands behind the end of a row that a call is given.
var behind = of(-77, -78, 31, 32, 4, 4, 40, 50)

// given are rows, each within a longer one, and the row of them within a longer one, too: what a call writes, even behind an end, is seen in the longer ones.
type given struct {
	rows  [][]api.Range
	whole [][]api.Range
	long  [][]api.Range
}

func guard(l ...[]api.Range) given {
	var g given
	for _, row := range l {
		whole := append(slices.Clone(row), behind...)
		g.whole = append(g.whole, whole)
		g.long = append(g.long, whole[:len(row)])
	}
	g.long = append(g.long, slices.Clone(behind), of(1, 1), nil)
	g.rows = g.long[:len(l)]
	return g
}

// unchanged fails unless all is as it was when it was given.
func (g given) unchanged(t *testing.T, l ...[]api.Range) {
	t.Helper()
	fresh := guard(l...)
	if !equal(g.rows, fresh.rows) || !equal(g.whole, fresh.whole) || !equal(g.long, fresh.long) {
		t.Fatal(g, fresh)
	}
}

// spoil writes over all that was given, even behind the ends.
func (g given) spoil() {
	for _, row := range g.whole {
		spoil(row)
	}
	clear(g.long)
}

// spoil writes into all of a row's memory, up to its capacity.
func spoil(l []api.Range) {
	for i := range l[:cap(l)] {
		l[:cap(l)][i] = api.Range{Lo: 99, Hi: -99}
	}
}

// cases are rows of rows: sets, and such as are told as classes.
func cases() [][][]api.Range {
	return [][][]api.Range{
		nil, row(nil), row(of(0, top)), row(of(3, 4)), row(of(5, 9, 1, 2, 3, 3, 8, 4), of(9, 7)), row(of(-5, 2, top-1, 2*top), nil, of(1, 2, 4, 4, 6, 9)), row(of(1, 2), of(1, 2), of(1, 2)),
		row(of(0, 4), of(5, 9), of(10, top)), row(of('a', 'z'), of('f', 'f'), of('0', '9', 'a', 'f')), row(of(9, 9, 8, 8, 7, 7, 1, 20, 30, 30), of(-3, -2, -1, -1), of(2, 3), of(3, 4), of(4, 5)),
		many(60, func(i int) []api.Range { return of(2*i, 2*i) }), many(100, func(i int) []api.Range { return of(7, 9, 1, i%30+1) }),
	}
}

// told is all that the calls tell of rows, once.
type told struct {
	classes        [][]api.Range
	firsts, within []int
	places         []int
}

func ask(l [][]api.Range, set []api.Range) told {
	var x told
	x.classes, _ = parts.Of(l...)
	x.firsts, x.within = parts.Firsts(l), parts.Within(l, set)
	for c := -2; c < 130; c++ {
		place, _ := parts.Class(l, c)
		x.places = append(x.places, place)
	}
	return x
}

// clone is the same in memory of its own.
func (x told) clone() told {
	y := told{nil, slices.Clone(x.firsts), slices.Clone(x.within), slices.Clone(x.places)}
	for _, class := range x.classes {
		y.classes = append(y.classes, slices.Clone(class))
	}
	return y
}

func (x told) same(y told) bool {
	return equal(x.classes, y.classes) && slices.Equal(x.firsts, y.firsts) && slices.Equal(x.within, y.within) && slices.Equal(x.places, y.places)
}

// spoil writes into all memory of what was told, up to its capacity.
func (x told) spoil() {
	for _, class := range x.classes {
		spoil(class)
	}
	for i := range x.classes[:cap(x.classes)] {
		x.classes[:cap(x.classes)][i] = of(6, 6)
	}
	for _, l := range [][]int{x.firsts, x.within} {
		for i := range l[:cap(l)] {
			l[:cap(l)][i] = -99
		}
	}
}

// TestMemory: R3, no argument is changed, not even behind its end, and what is handed out is new memory, up to its capacity.
func TestMemory(t *testing.T) {
	for _, l := range cases() {
		for _, set := range [][]api.Range{nil, of(0, top), of(5, 9, 1, 2, 3, 3, 8, 4)} {
			g, s := guard(l...), guard(set)
			ask(g.rows, s.rows[0]).spoil()
			g.unchanged(t, l...)
			s.unchanged(t, set)
		}
	}
}

// TestNotKept: R3, what is told stays as it is when all that was given is written over, and is told anew of what then stands there.
func TestNotKept(t *testing.T) {
	for _, l := range cases() {
		g, s := guard(l...), guard(of(5, 9, 1, 2, 3, 3, 8, 4))
		first := ask(g.rows, s.rows[0])
		g.spoil()
		s.spoil()
		if !first.same(ask(l, of(5, 9, 1, 2, 3, 3, 8, 4))) {
			t.Fatal(l, first)
		}
		are(t, row(of(0, top)), g.rows...)
		if len(parts.Within(g.rows, of(0, top))) > 0 || slices.Max(append(parts.Firsts(g.rows), -1)) != -1 {
			t.Fatal(l)
		}
	}
}

// TestAnswersApart: R3, R4, one thing asked again is answered alike, in memory of its own each time.
func TestAnswersApart(t *testing.T) {
	for _, l := range cases() {
		set := of(2, 8, top, top)
		first, second := ask(l, set), ask(l, set)
		want := first.clone()
		first.spoil()
		if !second.same(want) {
			t.Fatal(l, second, want)
		}
		for range 5 {
			if again := ask(l, set); !again.same(want) {
				t.Fatal(l, again, want)
			}
		}
	}
}

// TestRowsApart: R3, the rows of one answer lie apart: what is written into one, or put behind it, is not seen in the others.
func TestRowsApart(t *testing.T) {
	for _, l := range cases() {
		classes, _ := parts.Of(l...)
		want, _ := parts.Of(l...)
		for k := range classes {
			spoil(classes[k])
			for m := k + 1; m < len(classes); m++ {
				if !slices.Equal(classes[m], want[m]) {
					t.Fatal(l, k, m, classes[m])
				}
			}
		}
		classes, _ = parts.Of(l...)
		for k := range slices.Backward(classes) {
			classes[k] = append(classes[k], of(1, 1, 2, 2, 3, 3)...)
			if k > 0 && !slices.Equal(classes[k-1], want[k-1]) {
				t.Fatal(l, k)
			}
		}
		for k := range classes {
			if !slices.Equal(classes[k][:len(want[k])], want[k]) {
				t.Fatal(l, k)
			}
		}
	}
}

// TestNilAndEmpty: R6, lists without anything are one, nil or not.
func TestNilAndEmpty(t *testing.T) {
	all := row(of(0, top))
	full := of('a', 'z')
	for _, none := range [][]api.Range{nil, {}, full[:0], of(2, 1)[:0:0]} {
		are(t, all, none)
		are(t, all, none, none)
		are(t, row(of(0, 'a'-1, 'z'+1, top), full), none, full, none)
		if place, is := parts.Class(row(none, full, none), 'b'); place != 1 || !is {
			t.Error(place, is)
		}
		if got := parts.Firsts(row(none, full, none)); !slices.Equal(got, []int{-1, 'a', -1}) {
			t.Error(got)
		}
		if got := parts.Within(row(none, full, none), of(0, top)); !slices.Equal(got, []int{1}) {
			t.Error(got)
		}
		if got := parts.Within(row(none, full), none); len(got) > 0 {
			t.Error(got)
		}
	}
	for _, none := range [][][]api.Range{nil, {}, row(full)[:0]} {
		are(t, all, none...)
		if place, is := parts.Class(none, 0); place != 0 || is {
			t.Error(place, is)
		}
		if len(parts.Firsts(none)) > 0 || len(parts.Within(none, of(0, top))) > 0 {
			t.Error("not none")
		}
	}
}
