package fold_test

import (
	"reflect"
	"slices"
	"testing"

	"tinder/api"
	"tinder/fold"
)

// given is what calls are given: tables and sets. Each list of them lies within a longer one, kept beside them: what a call writes, even behind a list's end, is seen there.
type given struct {
	tables      api.Tables
	sets        [][]api.Range
	folds       []api.Fold
	props       []api.Prop
	setsOfProps [][]api.Range
	rows        [][]api.Range
	rowOfSets   [][]api.Range
}

// behind is what stands behind the end of a row of ranges.
var behind = of(-77, -78, 31, 32, 4, 4, 40, 50)

// guard is tables and sets, in memory of their own.
func guard(t api.Tables, sets ...[]api.Range) given {
	var g given
	g.folds = append(slices.Clone(t.Folds), folds(3, 2, 1, 1, -1, -1)...)
	for _, p := range t.Props {
		long := append(slices.Clone(p.Set), behind...)
		g.setsOfProps = append(g.setsOfProps, long)
		g.props = append(g.props, api.Prop{Name: p.Name, Set: long[:len(p.Set)]})
	}
	g.props = append(g.props, api.Prop{Name: "!", Set: of(9, 1)}, api.Prop{})
	for _, set := range sets {
		long := append(slices.Clone(set), behind...)
		g.rows = append(g.rows, long)
		g.rowOfSets = append(g.rowOfSets, long[:len(set)])
	}
	g.rowOfSets = append(g.rowOfSets, slices.Clone(behind), nil)
	g.tables = api.Tables{Folds: g.folds[:len(t.Folds)], Props: g.props[:len(t.Props)]}
	g.sets = g.rowOfSets[:len(sets)]
	return g
}

// answers are all that the calls tell.
func (g given) answers() [][]api.Range {
	l := [][]api.Range{fold.Close(g.tables), fold.Close(g.tables, g.sets...), fold.Words(g.tables, false), fold.Words(g.tables, true), fold.Lines(), fold.Digits(), fold.Spaces()}
	for _, set := range g.sets {
		l = append(l, fold.Close(g.tables, set), fold.Close(g.tables, set, set))
	}
	for _, p := range g.tables.Props {
		set, _ := fold.Prop(g.tables, p.Name)
		l = append(l, set)
	}
	return l
}

// ask calls what tells no ranges.
func (g given) ask() (l []int) {
	if fold.Right(g.tables) {
		l = append(l, 1)
	}
	for c := range 0x180 {
		l = append(l, fold.Canon(g.tables, c))
	}
	return l
}

// spoil writes over all that was given, even behind the ends.
func (g given) spoil() {
	for i := range g.folds {
		g.folds[i] = api.Fold{From: 'b', To: 'c'}
	}
	for _, l := range slices.Concat(g.setsOfProps, g.rows) {
		spoil(l)
	}
	clear(g.props)
	clear(g.rowOfSets)
}

// spoil writes into all of a row's memory, up to its capacity.
func spoil(l []api.Range) {
	for i := range l[:cap(l)] {
		l[:cap(l)][i] = api.Range{Lo: 99, Hi: -99}
	}
}

// clones are copies of rows.
func clones(l [][]api.Range) (out [][]api.Range) {
	for _, row := range l {
		out = append(out, slices.Clone(row))
	}
	return out
}

// guards are tables, right and wrong, and sets for them.
func guards() []given {
	wrong := letters()
	wrong.Folds[1].To = 'A'
	unsorted := letters()
	slices.Reverse(unsorted.Folds)
	slices.Reverse(unsorted.Props)
	sets := [][]api.Range{nil, of('a', 'z'), of('k', 'k', 'a', 'c', 'b', 'b', 9, 7), of(0, top), of(-5, 2, top-1, 2*top), of(5, 9, 1, 2, 3, 3, 8, 4)}
	var l []given
	for _, t := range []api.Tables{{}, letters(), ends(), wrong, unsorted, props(of(1, 2, 4, 4), "A", "B"), props(of(4, 4, 1, 2), "A", "B")} {
		l = append(l, guard(t, sets...), guard(t, sets[2]), guard(t))
	}
	return l
}

// TestMemory: R3, no argument is changed, not even behind its end, and what is handed out is new memory, up to its capacity.
func TestMemory(t *testing.T) {
	fresh := guards()
	for i, g := range guards() {
		g.ask()
		for _, got := range g.answers() {
			spoil(got)
			theSets(t)
		}
		if !reflect.DeepEqual(g, fresh[i]) {
			t.Error(g, fresh[i])
		}
	}
}

// TestNotKept: R3, what is told stays as it is when all that was given is written over, and is told anew of what then stands there.
func TestNotKept(t *testing.T) {
	fresh := guards()
	for i, g := range guards() {
		first, numbers := g.answers(), g.ask()
		g.spoil()
		want := fresh[i].answers()
		for k := range want {
			same(t, first[k], want[k], i, k)
		}
		if !slices.Equal(numbers, fresh[i].ask()) {
			t.Error(i)
		}
		if len(g.tables.Folds) > 1 && (fold.Right(g.tables) || fold.Canon(g.tables, 'A') != 'A') {
			t.Error(i)
		}
		same(t, fold.Close(g.tables, g.sets...), nil, i)
	}
}

// TestAnswersApart: R3, R4, one thing asked again is answered alike, in memory of its own each time.
func TestAnswersApart(t *testing.T) {
	for i, g := range guards() {
		first, second := g.answers(), g.answers()
		want := clones(first)
		for k := range first {
			spoil(first[k])
			for m := range second {
				same(t, second[m], want[m], i, k, m)
			}
		}
		for range 5 {
			again := g.answers()
			for k := range want {
				same(t, again[k], want[k], i, k)
			}
		}
	}
}

// TestNilAndEmpty: R6, lists without anything are one, nil or not.
func TestNilAndEmpty(t *testing.T) {
	full := letters()
	for _, noFolds := range [][]api.Fold{nil, {}, full.Folds[:0]} {
		for _, noProps := range [][]api.Prop{nil, {}, full.Props[:0]} {
			x := api.Tables{Folds: noFolds, Props: noProps}
			if !fold.Right(x) || fold.Canon(x, 'A') != 'A' {
				t.Error(x)
			}
			if set, is := fold.Prop(x, "L"); is || len(set) > 0 {
				t.Error(x, set)
			}
			same(t, fold.Close(x, of('a', 'b')), of('a', 'b'))
			same(t, fold.Words(x, true), fold.Words(x, false))
			if !fold.Right(api.Tables{Folds: noFolds, Props: full.Props}) || !fold.Right(api.Tables{Folds: full.Folds, Props: noProps}) {
				t.Error("right")
			}
		}
	}
	for _, nothing := range [][]api.Range{nil, {}, full.Props[0].Set[:0]} {
		same(t, fold.Close(full, nothing), nil)
		same(t, fold.Close(full, nothing, of('a', 'a'), nothing), of('A', 'A', 'a', 'a'))
		x := props(nothing, "None")
		set, is := fold.Prop(x, "None")
		same(t, set, nil)
		if !is || !fold.Right(x) {
			t.Error("no ranges")
		}
	}
	same(t, fold.Close(full, [][]api.Range{}...), nil)
}
