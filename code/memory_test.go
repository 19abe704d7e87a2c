package code_test

import (
	"math/rand"
	"reflect"
	"slices"
	"testing"

	"tinder/api"
	"tinder/code"
)

// samples are programs of each sort of answer, of which rows have memory to be shared.
func samples() []api.Program {
	r := rand.New(rand.NewSource(144))
	l := []api.Program{
		{}, {Ops: []api.Op{yes()}}, program(), program(end()), program(set(), setLeft(), set('a', 'z', 0x100, 0x200), setLeft(0, 0)), program(set(2, 1)), program(slices.Repeat([]api.Op{{Kind: api.OpSet, Set: wide(2000)}}, 200)...), program(slices.Repeat([]api.Op{yes()}, 2000)...),
	}
	for range 60 {
		p := someProgram(r)
		l = append(l, clone(p))
		bend(r, &p)
		l = append(l, p)
	}
	return l
}

// texts of these, right or not, and others.
func sampleTexts() []string {
	l := []string{"", "\n", headed("yes\n"), headed("yes")}
	for _, p := range samples() {
		l = append(l, modelText(p))
	}
	return l
}

func allTold(l []api.Program) []told {
	var out []told
	for _, p := range l {
		out = append(out, toldOf(p))
	}
	return out
}

func allTaken(l []string) []taken {
	var out []taken
	for _, s := range l {
		out = append(out, takenOf(s))
	}
	return out
}

func sameTaken(a, b []taken) bool { return slices.EqualFunc(a, b, taken.same) }

// within is a row at the beginning of a longer one: what a call writes behind its end is seen there.
func within[E any](l []E, behind ...E) []E {
	return slices.Concat(l, behind)[:len(l)]
}

// guarded are the same programs, of which each row lies within a longer one.
func guarded(l []api.Program) []api.Program {
	var out []api.Program
	for _, p := range l {
		p = clone(p)
		for at := range p.Ops {
			p.Ops[at].Set = within(p.Ops[at].Set, row(7, 9, 3, 1)...)
		}
		p.Ops, p.Words, p.Folds = within(p.Ops, end(), api.Op{Kind: 77}), within(p.Words, row(7, 9, 3, 1)...), within(p.Folds, folds(7, 7, 9, 1)...)
		out = append(out, p)
	}
	return out
}

// whole are all rows of programs, up to the ends of the longer ones that they lie in, in memory of their own.
func whole(l []api.Program) []api.Program {
	var out []api.Program
	for _, p := range l {
		p.Ops, p.Words, p.Folds = slices.Clone(p.Ops[:cap(p.Ops)]), slices.Clone(p.Words[:cap(p.Words)]), slices.Clone(p.Folds[:cap(p.Folds)])
		for at := range p.Ops {
			set := p.Ops[at].Set
			p.Ops[at].Set = slices.Clone(set[:cap(set)])
		}
		out = append(out, p)
	}
	return out
}

// spoilRow writes over a row, up to the end of its memory.
func spoilRow[E any](l []E, with E) {
	l = l[:cap(l)]
	for i := range l {
		l[i] = with
	}
}

// spoil writes over all of a program's memory.
func spoil(p api.Program) {
	for _, op := range p.Ops {
		spoilRow(op.Set, api.Range{Lo: -7, Hi: -9})
	}
	spoilRow(p.Ops, api.Op{Kind: 77, Num: -7})
	spoilRow(p.Words, api.Range{Lo: -7, Hi: -9})
	spoilRow(p.Folds, api.Fold{From: -7, To: -7})
}

// TestMemory: R3, R4, no argument is changed, not even behind its end, and not by what is done to what was told; each answer is the same each time.
func TestMemory(t *testing.T) {
	l, texts := guarded(samples()), sampleTexts()
	before, want, wantTaken := whole(l), allTold(samples()), allTaken(texts)
	for range 3 {
		if !slices.Equal(allTold(l), want) {
			t.Fatal("not alike")
		}
		got := allTaken(texts)
		if !sameTaken(got, wantTaken) {
			t.Fatal("not alike")
		}
		for _, a := range got {
			spoil(a.p)
		}
		if !reflect.DeepEqual(whole(l), before) {
			t.Fatal("changed")
		}
	}
}

// TestNotKept: R3, what was told stays as it is when all that was given is written over, and is told anew of what then stands there.
func TestNotKept(t *testing.T) {
	l := samples()
	got, want := allTold(l), allTold(samples())
	for _, p := range l {
		spoil(p)
	}
	if !slices.Equal(got, want) {
		t.Error("not as it was")
	}
	for _, a := range allTold(l) {
		if a != (told{e: api.ErrArg}) {
			t.Error("kept", shown(a))
		}
	}
	// A text that is given as bytes is not kept either.
	bytes := []byte(headed("set 61,63\nend\n"))
	p, _, e := code.Parse(string(bytes))
	clear(bytes)
	if e != api.OK || !same(p, program(set('a', 'a', 'c', 'c'))) {
		t.Error(shown(p), e)
	}
}

// rowsOf are all rows of ranges that a program has.
func rowsOf(p api.Program) [][]api.Range {
	l := [][]api.Range{p.Words}
	for _, op := range p.Ops {
		l = append(l, op.Set)
	}
	return l
}

// TestOwnRows: R3, no two rows of one answer share memory, up to their ends; nor do those of two answers.
func TestOwnRows(t *testing.T) {
	tried := 0
	for _, text := range sampleTexts() {
		a, _, e := code.Parse(text)
		b, _, _ := code.Parse(text)
		if e != api.OK || len(a.Ops) > 100 {
			continue
		}
		want := clone(b)
		for i, l := range rowsOf(a) {
			tried += count(len(l) > 0)
			spoilRow(l, api.Range{Lo: -7, Hi: -9})
			for j, other := range rowsOf(a) {
				if j > i && !slices.Equal(other, rowsOf(b)[j]) {
					t.Fatal(shown(a), shown(b))
				}
			}
		}
		spoil(a)
		if !same(b, want) {
			t.Fatal(shown(b), shown(want))
		}
	}
	if tried < 100 {
		t.Error(tried)
	}
}

// TestNilAndEmpty: R6, lists without elements and nil ones are one.
func TestNilAndEmpty(t *testing.T) {
	want := allTold(samples())
	for _, full := range []bool{false, true} {
		l := samples()
		for i := range l {
			p := &l[i]
			p.Ops, p.Words, p.Folds = listing(p.Ops, full), listing(p.Words, full), listing(p.Folds, full)
			for at := range p.Ops {
				p.Ops[at].Set = listing(p.Ops[at].Set, full)
			}
		}
		if !slices.Equal(allTold(l), want) {
			t.Error(full)
		}
	}
}

// listing is the same list: one without elements is nil, or it is not.
func listing[E any](l []E, full bool) []E {
	switch {
	case len(l) > 0:
		return l
	case full:
		return make([]E, 2)[:0]
	}
	return nil
}

// TestTogether: R4, what is told hangs on nothing but what is given: not on other calls that go on at the same time.
func TestTogether(t *testing.T) {
	l, texts := samples(), sampleTexts()
	want, wantTaken := allTold(samples()), allTaken(texts)
	done := make(chan bool)
	for range 4 {
		go func() {
			done <- slices.Equal(allTold(l), want) && sameTaken(allTaken(texts), wantTaken)
		}()
	}
	for range 4 {
		if !<-done {
			t.Error("not alike")
		}
	}
}
