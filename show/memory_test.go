package show_test

import (
	"math/rand"
	"reflect"
	"slices"
	"testing"

	"tinder/api"
	"tinder/show"
)

// samples are trees of each sort of answer.
func samples() []api.Tree {
	r := rand.New(rand.NewSource(114))
	l := []api.Tree{
		{}, named(start(), "n"), long(2001), long(2000), repeat(2, 1, greedy, start()), of(api.NodeFresh, start()),
		seq(set('a', 'c', 'x', 'x'), repeat(0, -1, greedy, alt(empty(), set('a', 'a')))),
		named(alt(group(1, seq(group(2, set()), back(1))), behind(true, group(3, back(2)))), "a", "", "b"),
	}
	for range 50 {
		l = append(l, someTree(r, 5))
	}
	return l
}

// answer is what is told of a tree.
type answer struct {
	text string
	e    api.Errno
}

func answers(l []api.Tree) []answer {
	var out []answer
	for _, x := range l {
		text, e := show.Text(x)
		out = append(out, answer{text, e})
	}
	return out
}

// within is a row at the beginning of a longer one: what a call writes behind its end is seen there.
func within[E any](l []E, behind ...E) []E {
	return slices.Concat(l, behind)[:len(l)]
}

// guarded are the same trees, of which each row lies within a longer one.
func guarded(l []api.Tree) []api.Tree {
	var out []api.Tree
	for _, x := range l {
		x = clone(x)
		for at := range x.Nodes {
			n := &x.Nodes[at]
			n.Set, n.Kids = within(n.Set, row(7, 9, 3, 1)...), within(n.Kids, -55, 3)
		}
		x.Nodes, x.Names = within(x.Nodes, api.Node{Kind: 77}, api.Node{Kind: api.NodeEmpty}), within(x.Names, "behind", "")
		out = append(out, x)
	}
	return out
}

// whole are all rows of trees, up to the ends of the longer ones that they lie in, in memory of their own.
func whole(l []api.Tree) []api.Tree {
	var out []api.Tree
	for _, x := range l {
		x.Nodes, x.Names = slices.Clone(x.Nodes[:cap(x.Nodes)]), slices.Clone(x.Names[:cap(x.Names)])
		for at := range x.Nodes {
			n := &x.Nodes[at]
			n.Set, n.Kids = slices.Clone(n.Set[:cap(n.Set)]), slices.Clone(n.Kids[:cap(n.Kids)])
		}
		out = append(out, x)
	}
	return out
}

// TestMemory: R3, R4, no argument is changed, not even behind its end; each answer is the same each time.
func TestMemory(t *testing.T) {
	l := guarded(samples())
	before, want := whole(l), answers(samples())
	for range 3 {
		if got := answers(l); !slices.Equal(got, want) {
			t.Fatal("not alike")
		}
		if after := whole(l); !reflect.DeepEqual(after, before) {
			t.Fatal(shown(after), shown(before))
		}
	}
}

// TestNotKept: R3, what was told stays as it is when all that was given is written over, and is told anew of what then stands there.
func TestNotKept(t *testing.T) {
	l := samples()
	got, want := answers(l), answers(samples())
	for _, x := range l {
		for at := range x.Nodes {
			n := &x.Nodes[at]
			for i := range n.Set {
				n.Set[i] = api.Range{Lo: -7, Hi: -9}
			}
			for i := range n.Kids {
				n.Kids[i] = -7
			}
			*n = api.Node{Kind: 77}
		}
		for i := range x.Names {
			x.Names[i] = "spoilt"
		}
	}
	if !slices.Equal(got, want) {
		t.Error("not as it was")
	}
	for _, a := range answers(l) {
		if a != (answer{"", api.ErrArg}) {
			t.Error("kept", a)
		}
	}
}

// TestNilAndEmpty: R6, lists without elements and nil ones are one.
func TestNilAndEmpty(t *testing.T) {
	want := answers(samples())
	for _, full := range []bool{false, true} {
		l := samples()
		for i := range l {
			x := &l[i]
			x.Nodes, x.Names = listing(x.Nodes, full), listing(x.Names, full)
			for at := range x.Nodes {
				n := &x.Nodes[at]
				n.Set, n.Kids = listing(n.Set, full), listing(n.Kids, full)
			}
		}
		if !slices.Equal(answers(l), want) {
			t.Error(full)
		}
	}
}

// listing is the same list: one without elements is nil, or it is not.
func listing[E any](l []E, full bool) []E {
	switch {
	case len(l) > 0:
		return l
	case full:
		return make([]E, 2)[:0]
	}
	return nil
}

// TestTogether: R4, what is told hangs on nothing but what is given: not on other calls that go on at the same time.
func TestTogether(t *testing.T) {
	l, want := samples(), answers(samples())
	done := make(chan bool)
	for range 4 {
		go func() {
			done <- slices.Equal(answers(l), want)
		}()
	}
	for range 4 {
		if !<-done {
			t.Error("not alike")
		}
	}
}
