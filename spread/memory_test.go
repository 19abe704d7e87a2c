package spread_test

import (
	"math/rand"
	"reflect"
	"slices"
	"testing"

	"tinder/api"
	"tinder/spread"
)

// samples are trees of each sort of answer, of which rows have memory to be shared.
func samples() []api.Tree {
	r := rand.New(rand.NewSource(135))
	wide := set('a', 'c', 'x', 'z', 200, 300)
	l := []api.Tree{
		{}, named(start(), "n"), repeat(2, 1, greedy, start()), fresh(wide), times(1000, seqs(7, wide)), behind(true, repeat(2, 4, lazy, wide)), wide, seq(wide, wide, alt(wide, empty())), times(3, wide), repeat(0, 3, own, wide), repeat(2, -1, own, wide), star(star(wide)),
		named(alt(group(1, seq(group(2, wide), back(1))), behind(true, repeat(1, -1, lazy, group(3, back(2)))), repeat(1, 7, own, ahead(false, wide))), "a", "", "b"),
		named(times(2, group(1, repeat(2, 3, greedy, wide))), "n"),
	}
	for range 100 {
		l = append(l, someTree(r, 4))
	}
	return l
}

func answers(l []api.Tree) []answer {
	var out []answer
	for _, x := range l {
		out = append(out, answerOf(x))
	}
	return out
}

func sameAnswers(a, b []answer) bool { return slices.EqualFunc(a, b, answer.same) }

// within is a row at the beginning of a longer one: what a call writes behind its end is seen there.
func within[E any](l []E, behind ...E) []E {
	return slices.Concat(l, behind)[:len(l)]
}

// guarded are the same trees, of which each row lies within a longer one.
func guarded(l []api.Tree) []api.Tree {
	var out []api.Tree
	for _, x := range l {
		x = clone(x)
		for at := range x.Nodes {
			n := &x.Nodes[at]
			n.Set, n.Kids = within(n.Set, row(7, 9, 3, 1)...), within(n.Kids, -55, 3)
		}
		x.Nodes, x.Names = within(x.Nodes, api.Node{Kind: 77}, api.Node{Kind: api.NodeEmpty}), within(x.Names, "behind", "")
		out = append(out, x)
	}
	return out
}

// whole are all rows of trees, up to the ends of the longer ones that they lie in, in memory of their own.
func whole(l []api.Tree) []api.Tree {
	var out []api.Tree
	for _, x := range l {
		x.Nodes, x.Names = slices.Clone(x.Nodes[:cap(x.Nodes)]), slices.Clone(x.Names[:cap(x.Names)])
		for at := range x.Nodes {
			n := &x.Nodes[at]
			n.Set, n.Kids = slices.Clone(n.Set[:cap(n.Set)]), slices.Clone(n.Kids[:cap(n.Kids)])
		}
		out = append(out, x)
	}
	return out
}

// spoil writes over all of a tree's memory, up to the ends of its rows.
func spoil(x api.Tree) {
	nodes, names := x.Nodes[:cap(x.Nodes)], x.Names[:cap(x.Names)]
	for at := range nodes {
		spoilRows(nodes[at])
		nodes[at] = api.Node{Kind: 77, Group: -7}
	}
	for i := range names {
		names[i] = "spoilt"
	}
}

func spoilRows(n api.Node) {
	set, kids := n.Set[:cap(n.Set)], n.Kids[:cap(n.Kids)]
	for i := range set {
		set[i] = api.Range{Lo: -7, Hi: -9}
	}
	for i := range kids {
		kids[i] = -7
	}
}

// TestMemory: R3, R4, no argument is changed, not even behind its end, and not by what is done to what was told; each answer is the same each time.
func TestMemory(t *testing.T) {
	l := guarded(samples())
	before, want := whole(l), answers(samples())
	for range 3 {
		got := answers(l)
		if !sameAnswers(got, want) {
			t.Fatal("not alike")
		}
		for _, a := range got {
			spoil(a.out)
		}
		if after := whole(l); !reflect.DeepEqual(after, before) {
			t.Fatal(shown(after), shown(before))
		}
	}
}

// TestNotKept: R3, what was told stays as it is when all that was given is written over, and is told anew of what then stands there.
func TestNotKept(t *testing.T) {
	l := samples()
	got, want := answers(l), answers(samples())
	for _, x := range l {
		spoil(x)
	}
	if !sameAnswers(got, want) {
		t.Error("not as it was")
	}
	for _, a := range answers(l) {
		if !a.same(answer{e: api.ErrShape}) {
			t.Error("kept", shown(a))
		}
	}
}

// TestOwnRows: R3, no two rows of one answer share memory, up to their ends; nor do those of two answers.
func TestOwnRows(t *testing.T) {
	tried := 0
	for _, x := range samples() {
		a, e := spread.Out(x)
		b, _ := spread.Out(x)
		if e != api.OK || len(a.Nodes) > 200 {
			continue
		}
		tried++
		for at := range a.Nodes {
			n, want := a.Nodes[at], clone(a)
			spoilRows(n)
			// All others are as they were, and it is what it was but for its own rows.
			want.Nodes[at].Set, want.Nodes[at].Kids = n.Set, n.Kids
			if !same(a, want) {
				t.Fatal(shown(a), shown(want))
			}
			// A row that is spoilt is told from all that stands there: both rows of one node are of their own, too.
			n.Set, n.Kids = slices.Clone(b.Nodes[at].Set), slices.Clone(b.Nodes[at].Kids)
			a.Nodes[at] = n
			if !same(a, b) {
				t.Fatal(shown(a), shown(b))
			}
		}
		// Names are not those that were given, nor those of the other answer.
		for i := range a.Names {
			a.Names[i] = "spoilt"
		}
		if !slices.Equal(b.Names, x.Names) || slices.Contains(x.Names, "spoilt") {
			t.Fatal(shown(b), shown(x))
		}
	}
	if tried < 60 {
		t.Error(tried)
	}
}

// TestNilAndEmpty: R6, lists without elements and nil ones are one.
func TestNilAndEmpty(t *testing.T) {
	want := answers(samples())
	for _, full := range []bool{false, true} {
		l := samples()
		for i := range l {
			x := &l[i]
			x.Nodes, x.Names = listing(x.Nodes, full), listing(x.Names, full)
			for at := range x.Nodes {
				n := &x.Nodes[at]
				n.Set, n.Kids = listing(n.Set, full), listing(n.Kids, full)
			}
		}
		if !sameAnswers(answers(l), want) {
			t.Error(full)
		}
	}
}

// listing is the same list: one without elements is nil, or it is not.
func listing[E any](l []E, full bool) []E {
	switch {
	case len(l) > 0:
		return l
	case full:
		return make([]E, 2)[:0]
	}
	return nil
}

// TestTogether: R4, what is told hangs on nothing but what is given: not on other calls that go on at the same time.
func TestTogether(t *testing.T) {
	l, want := samples(), answers(samples())
	done := make(chan bool)
	for range 4 {
		go func() {
			done <- sameAnswers(answers(l), want)
		}()
	}
	for range 4 {
		if !<-done {
			t.Error("not alike")
		}
	}
}
