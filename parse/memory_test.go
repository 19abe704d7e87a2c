package parse_test

import (
	"reflect"
	"strings"
	"testing"

	"tinder/api"
	"tinder/parse"
)

// patterns are of each sort of answer.
var patterns = []string{
	"", "a", "ab", "a|b|", "(a)(?<n>b)", `(?<x>\k<x>\1(?<y>\2))*`, ".", `\d\D\s\S\w\W`, `\p{Lu}\P{Two}\p{None}`, "[k][^k][]", "(?=a)(?!b)(?<=c)(?<!d)(?>e)(?:f)", `^$\b\B`, "k*K+?n{2,3}+", strings.Repeat("(?<a>k)", 20), `\n\0\u{212A}`,
	"(", ")", `\q`, "a{2,1}", "a{1001}", "(?<1>)", strings.Repeat("()", 21), around(61, "(?>", ""), strings.Repeat("a", 2001), "\xFF", `\p{No}`,
}

// answers are what is read of all of these, with each flag.
func answers(x api.Tables) []parse.Raw {
	var l []parse.Raw
	for _, text := range patterns {
		for _, flags := range allFlags() {
			r, _, _ := parse.Read(text, flags, x)
			l = append(l, r)
		}
	}
	return l
}

// written is what each list of an answer is, the lists one behind the other.
func written(r parse.Raw) []any {
	l := []any{listed(r.Refs), listed(r.Places), listed(r.Tree.Names)}
	var nodes []api.Node
	for _, n := range r.Tree.Nodes {
		l = append(l, listed(n.Set), listed(n.Kids))
		n.Set, n.Kids = nil, nil
		nodes = append(nodes, n)
	}
	return append(l, nodes)
}

// fill writes into all of a list's memory, up to its capacity.
func fill[E any](l []E, x E) {
	for i := range l[:cap(l)] {
		l[:cap(l)][i] = x
	}
}

// spoil writes into all memory of an answer, the nodes last.
func spoil(r parse.Raw) {
	fill(r.Refs, parse.Ref{Node: -7, Name: "spoilt"})
	fill(r.Places, -7)
	fill(r.Tree.Names, "spoilt")
	for _, n := range r.Tree.Nodes {
		fill(n.Set, api.Range{Lo: -7, Hi: -9})
		fill(n.Kids, -7)
	}
	fill(r.Tree.Nodes, api.Node{Kind: 77})
}

// guarded are tables whose rows lie within longer ones.
func guarded() (x, whole api.Tables) {
	whole = tables()
	whole.Folds = append(whole.Folds, api.Fold{From: 1, To: 2})
	whole.Props = append(whole.Props, api.Prop{Name: "behind"})
	for i := range whole.Props {
		whole.Props[i].Set = append(whole.Props[i].Set, of(7, 7)...)
	}
	x.Folds = whole.Folds[:len(whole.Folds)-1]
	x.Props = append(x.Props, whole.Props[:len(whole.Props)-1]...)
	for i := range x.Props {
		x.Props[i].Set = x.Props[i].Set[:len(x.Props[i].Set)-1]
	}
	return x, whole
}

// TestMemory: R3, R4, no argument is changed, not even behind its end; what is handed out is new memory each time.
func TestMemory(t *testing.T) {
	x, whole := guarded()
	_, before := guarded()
	want := answers(tables())
	for range 3 {
		l := answers(x)
		if !reflect.DeepEqual(l, want) {
			t.Fatal("not alike")
		}
		for _, r := range l {
			spoil(r)
		}
		if !reflect.DeepEqual(whole, before) {
			t.Fatal(whole)
		}
	}
}

// TestApart: R3, no two lists of an answer share memory, up to their capacities.
func TestApart(t *testing.T) {
	for _, text := range patterns {
		for _, flags := range allFlags() {
			r, _, _ := parse.Read(text, flags, tables())
			want := written(r)
			lists := 3 + 2*len(r.Tree.Nodes)
			for i := range lists {
				r, _, _ := parse.Read(text, flags, tables())
				switch {
				case i == 0:
					fill(r.Refs, parse.Ref{Node: -7})
				case i == 1:
					fill(r.Places, -7)
				case i == 2:
					fill(r.Tree.Names, "spoilt")
				case i%2 == 1:
					fill(r.Tree.Nodes[(i-3)/2].Set, api.Range{Lo: -7, Hi: -9})
				default:
					fill(r.Tree.Nodes[(i-4)/2].Kids, -7)
				}
				for k, got := range written(r) {
					if k != i && !reflect.DeepEqual(got, want[k]) {
						t.Fatalf("%q: %d, %d", text, i, k)
					}
				}
				if i > 60 {
					break
				}
			}
		}
	}
}

// TestNotKept: R3, what was told stays as it is when the tables are written over, and is told anew of what then stands there.
func TestNotKept(t *testing.T) {
	x, _ := guarded()
	l, want, none := answers(x), answers(tables()), answers(api.Tables{})
	for i := range x.Props {
		fill(x.Props[i].Set, api.Range{Lo: 9, Hi: 7})
	}
	fill(x.Folds, api.Fold{From: 5, To: 5})
	if !reflect.DeepEqual(l, want) {
		t.Error("not as it was")
	}
	for i, r := range answers(x) {
		if !reflect.DeepEqual(bare(r), bare(none[i])) {
			t.Fatal(shown(r), shown(none[i]))
		}
	}
}

// TestNilAndEmpty: R6, lists without elements and nil ones are one, in tables; and of an empty text all but a node is nothing.
func TestNilAndEmpty(t *testing.T) {
	want := answers(tables())
	for _, none := range [][]api.Range{nil, {}, of(1, 2)[:0]} {
		x := tables()
		x.Props[1].Set = none
		for i, r := range answers(x) {
			if !reflect.DeepEqual(bare(r), bare(want[i])) {
				t.Fatal(shown(r), shown(want[i]))
			}
		}
	}
	for _, x := range []api.Tables{{}, {Folds: []api.Fold{}}, {Props: []api.Prop{}}, {Folds: tables().Folds[:0], Props: tables().Props[:0]}} {
		if got, want := answers(x), answers(api.Tables{}); !reflect.DeepEqual(got, want) {
			t.Fatal(x)
		}
	}
	r, at, e := parse.Read("", withFold, tables())
	if e != api.OK || at != 0 || !reflect.DeepEqual(bare(r), parse.Raw{Tree: api.Tree{Nodes: []api.Node{{Kind: api.NodeEmpty}}}}) {
		t.Error(r, at, e)
	}
}

// TestTogether: R4, what is told hangs on nothing but what is given: not on other readings that go on at the same time.
func TestTogether(t *testing.T) {
	want := answers(tables())
	done := make(chan bool)
	for range 4 {
		go func() {
			done <- reflect.DeepEqual(answers(tables()), want)
		}()
	}
	for range 4 {
		if !<-done {
			t.Error("not alike")
		}
	}
}
