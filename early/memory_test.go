package early_test

import (
	"reflect"
	"slices"
	"testing"

	"tinder/api"
	"tinder/early"
	"tinder/parse"
)

// patterns are of each sort of answer.
var patterns = []string{
	"", "a", "ab|", `(a)\1`, `(?<n>[ak])\k<n>\1*|(\2[^k])`, `\k<b>(?<a>)(?<b>\k<a>)`, "(?<x>(?<y>(?<z>)))", `(?=\p{Lu})(?<!.)`, `\2(a)`, `()\k<n>`, "(?<n>)(?<n>)", "(", `\p{No}`, "\xFF",
}

// raws are raw patterns of each sort of answer.
func raws(t testing.TB) []parse.Raw {
	t.Helper()
	var l []parse.Raw
	for _, text := range patterns {
		if r, _, e := parse.Read(text, api.Flags{Fold: true}, tables()); e == api.OK {
			l = append(l, r)
		}
	}
	unsound, unnamed := some(t), some(t)
	unsound.Refs = unsound.Refs[:2]
	unnamed.Tree.Names[1] = "1"
	return append(l, unsound, unnamed, parse.Raw{})
}

// answers are what is told of raw patterns, and of texts.
func answers(l []parse.Raw, x api.Tables) []api.Tree {
	var out []api.Tree
	for _, r := range l {
		got, _, _ := early.Resolve(r)
		out = append(out, got)
	}
	for _, text := range patterns {
		for _, flags := range allFlags() {
			got, _, _ := early.Read(text, flags, x)
			out = append(out, got)
		}
	}
	return out
}

func sameAll(a, b []api.Tree) bool { return slices.EqualFunc(a, b, same) }

// fill writes into all of a list's memory, up to its capacity.
func fill[E any](l []E, x E) {
	for i := range l[:cap(l)] {
		l[:cap(l)][i] = x
	}
}

// spoil writes into all memory of a tree, the nodes last.
func spoil(x api.Tree) {
	fill(x.Names, "spoilt")
	for _, n := range x.Nodes[:cap(x.Nodes)] {
		fill(n.Set, api.Range{Lo: -7, Hi: -9})
		fill(n.Kids, -7)
	}
	fill(x.Nodes, api.Node{Kind: 77})
}

// within is a row at the beginning of a longer one: what a call writes behind its end is seen there.
func within[E any](l []E, behind ...E) []E {
	return slices.Concat(l, behind)[:len(l)]
}

// guarded are the same raw patterns, of which each row lies within a longer one.
func guarded(l []parse.Raw) []parse.Raw {
	var out []parse.Raw
	for _, r := range l {
		r = clone(r)
		for at := range r.Tree.Nodes {
			n := &r.Tree.Nodes[at]
			n.Set, n.Kids = within(n.Set, of(7, 9, 3, 1)...), within(n.Kids, -55, 3)
		}
		r.Tree.Nodes, r.Tree.Names = within(r.Tree.Nodes, back, api.Node{Kind: 77}), within(r.Tree.Names, "behind", "")
		r.Refs, r.Places = within(r.Refs, parse.Ref{Node: 5, Num: -3}, parse.Ref{Name: "behind"}), within(r.Places, 55, 66)
		out = append(out, r)
	}
	return out
}

// whole are all rows of raw patterns, up to the ends of the longer ones that they lie in, in memory of their own.
func whole(l []parse.Raw) []parse.Raw {
	var out []parse.Raw
	for _, r := range l {
		x := parse.Raw{Refs: slices.Clone(r.Refs[:cap(r.Refs)]), Places: slices.Clone(r.Places[:cap(r.Places)])}
		x.Tree.Names = slices.Clone(r.Tree.Names[:cap(r.Tree.Names)])
		for _, n := range r.Tree.Nodes[:cap(r.Tree.Nodes)] {
			n.Set, n.Kids = slices.Clone(n.Set[:cap(n.Set)]), slices.Clone(n.Kids[:cap(n.Kids)])
			x.Tree.Nodes = append(x.Tree.Nodes, n)
		}
		out = append(out, x)
	}
	return out
}

// TestMemory: R3, R4, no argument is changed, not even behind its end; what is handed out is new memory each time.
func TestMemory(t *testing.T) {
	l, x := guarded(raws(t)), tables()
	before, want := whole(l), answers(raws(t), tables())
	for range 3 {
		got := answers(l, x)
		if !sameAll(got, want) {
			t.Fatal("not alike")
		}
		for _, y := range got {
			spoil(y)
		}
		if after := whole(l); !reflect.DeepEqual(after, before) || !reflect.DeepEqual(x, tables()) {
			t.Fatal(shown(after), x)
		}
	}
}

// TestApart: R3, no two lists of an answer share memory, up to their capacities.
func TestApart(t *testing.T) {
	// One set that several nodes share.
	shared := raw(t, `(?<a>[x-z])[x-z]\1(?:[x-z]|\k<a>)`)
	for at := range shared.Tree.Nodes {
		if n := &shared.Tree.Nodes[at]; n.Kind == api.NodeSet {
			n.Set = shared.Tree.Nodes[0].Set
		}
	}
	for _, r := range append(raws(t), shared) {
		want, _, _ := early.Resolve(clone(r))
		want = cloneTree(want)
		for i := range want.Nodes {
			for _, spoilt := range []func(n *api.Node){
				func(n *api.Node) { fill(n.Set, api.Range{Lo: -7, Hi: -9}) },
				func(n *api.Node) { fill(n.Kids, -7) },
			} {
				got, _, _ := early.Resolve(r)
				spoilt(&got.Nodes[i])
				got.Nodes[i] = want.Nodes[i]
				if !same(got, want) {
					t.Fatal(i, shown(got), shown(want))
				}
			}
		}
	}
}

// TestNotKept: R3, what was told stays as it is when all that was given is written over, and is told anew of what then stands there.
func TestNotKept(t *testing.T) {
	l, x := raws(t), tables()
	got, want := answers(l, x), answers(raws(t), tables())
	for _, r := range l {
		fill(r.Refs, parse.Ref{Node: -7})
		fill(r.Places, -7)
		spoil(r.Tree)
	}
	fill(x.Folds, api.Fold{From: 5, To: 5})
	for i := range x.Props {
		fill(x.Props[i].Set, api.Range{Lo: 9, Hi: 7})
	}
	if !sameAll(got, want) {
		t.Error("not as it was")
	}
	if !sameAll(answers(l, x), answers(make([]parse.Raw, len(l)), api.Tables{})) {
		t.Error("kept")
	}
}

// TestNilAndEmpty: R6, lists without elements and nil ones are one.
func TestNilAndEmpty(t *testing.T) {
	want := answers(raws(t), tables())
	full, none := raws(t), raws(t)
	for i := range full {
		for _, pair := range []struct {
			r    *parse.Raw
			full bool
		}{{&full[i], true}, {&none[i], false}} {
			r := pair.r
			r.Refs, r.Places, r.Tree.Names, r.Tree.Nodes = listing(r.Refs, pair.full), listing(r.Places, pair.full), listing(r.Tree.Names, pair.full), listing(r.Tree.Nodes, pair.full)
			for at := range r.Tree.Nodes {
				n := &r.Tree.Nodes[at]
				n.Set, n.Kids = listing(n.Set, pair.full), listing(n.Kids, pair.full)
			}
		}
	}
	if !sameAll(answers(full, tables()), want) || !sameAll(answers(none, tables()), want) {
		t.Error("not alike")
	}
	for _, x := range []api.Tables{{}, {Folds: []api.Fold{}}, {Props: []api.Prop{}}} {
		if !sameAll(answers(full, x), answers(none, api.Tables{})) {
			t.Error(x)
		}
	}
}

// listing is the same list: one without elements is nil, or it is not.
func listing[E any](l []E, full bool) []E {
	switch {
	case len(l) > 0:
		return l
	case full:
		return make([]E, 2)[:0]
	}
	return nil
}

// TestTogether: R4, what is told hangs on nothing but what is given: not on other calls that go on at the same time.
func TestTogether(t *testing.T) {
	l, want := raws(t), answers(raws(t), tables())
	done := make(chan bool)
	for range 4 {
		go func() {
			done <- sameAll(answers(l, tables()), want)
		}()
	}
	for range 4 {
		if !<-done {
			t.Error("not alike")
		}
	}
}
