package code_test

import (
	"fmt"
	"math"
	"reflect"
	"slices"
	"testing"

	"tinder/api"
	"tinder/code"
)

const (
	top     = api.MaxPoint
	lowest  = math.MinInt
	highest = math.MaxInt
)

// row is ranges, by their ends.
func row(ends ...int) []api.Range {
	l := make([]api.Range, len(ends)/2)
	for i := range l {
		l[i] = api.Range{Lo: ends[2*i], Hi: ends[2*i+1]}
	}
	return l
}

// folds are folds, by what each is of and to.
func folds(points ...int) []api.Fold {
	l := make([]api.Fold, len(points)/2)
	for i := range l {
		l[i] = api.Fold{From: points[2*i], To: points[2*i+1]}
	}
	return l
}

// Instructions of each kind.

func set(ends ...int) api.Op { return api.Op{Kind: api.OpSet, Set: row(ends...)} }

func setLeft(ends ...int) api.Op { return api.Op{Kind: api.OpSet, Set: row(ends...), Left: true} }

func split(to, other int) api.Op { return api.Op{Kind: api.OpSplit, To: to, Else: other} }

func jump(to int) api.Op { return api.Op{Kind: api.OpJump, To: to} }

func mark(n int) api.Op { return api.Op{Kind: api.OpMark, Num: n} }

func check(n int) api.Op { return api.Op{Kind: api.OpCheck, Num: n} }

func forget(from, to int) api.Op { return api.Op{Kind: api.OpForget, Num: from, Else: to} }

func opens(n int) api.Op { return api.Op{Kind: api.OpOpen, Num: n} }

func closes(n int) api.Op { return api.Op{Kind: api.OpClose, Num: n} }

func back(n int) api.Op { return api.Op{Kind: api.OpBack, Num: n} }

func backLeft(n int) api.Op { return api.Op{Kind: api.OpBack, Num: n, Left: true} }

func spot(kind api.SpotKind) api.Op { return api.Op{Kind: api.OpSpot, Spot: kind} }

func look(to int) api.Op { return api.Op{Kind: api.OpLook, To: to} }

func lookNot(to int) api.Op { return api.Op{Kind: api.OpLook, To: to, Not: true} }

func atomic(to int) api.Op { return api.Op{Kind: api.OpAtomic, To: to} }

func yes() api.Op { return api.Op{Kind: api.OpYes} }

func end() api.Op { return api.Op{Kind: api.OpEnd} }

// program is some instructions and the end, with two groups and two marks.
func program(ops ...api.Op) api.Program {
	return api.Program{Ops: append(slices.Clone(ops), end()), Groups: 2, Marks: 2}
}

// headed is a text of lines behind those that a program begins with.
func headed(lines string) string {
	return "program 2 2 plain\nwords -\nfolds\n" + lines
}

func shown(x any) string { return fmt.Sprintf("%+v", x) }

// clone is the same program in memory of its own.
func clone(p api.Program) api.Program {
	p.Ops, p.Words, p.Folds = slices.Clone(p.Ops), slices.Clone(p.Words), slices.Clone(p.Folds)
	for at := range p.Ops {
		p.Ops[at].Set = slices.Clone(p.Ops[at].Set)
	}
	return p
}

// bared is the same program, its lists without elements nil.
func bared(p api.Program) api.Program {
	p = clone(p)
	for at := range p.Ops {
		if op := &p.Ops[at]; len(op.Set) == 0 {
			op.Set = nil
		}
	}
	if len(p.Ops) == 0 {
		p.Ops = nil
	}
	if len(p.Words) == 0 {
		p.Words = nil
	}
	if len(p.Folds) == 0 {
		p.Folds = nil
	}
	return p
}

// same says whether two programs are one.
func same(a, b api.Program) bool {
	return reflect.DeepEqual(bared(a), bared(b))
}

// told is all that is told of a program.
type told struct {
	right bool
	text  string
	e     api.Errno
}

func toldOf(p api.Program) told {
	text, e := code.Text(p)
	return told{code.Right(p), text, e}
}

// taken is all that is told of a text.
type taken struct {
	p    api.Program
	line int
	e    api.Errno
}

func takenOf(s string) taken {
	p, line, e := code.Parse(s)
	return taken{p, line, e}
}

func (a taken) same(b taken) bool {
	return same(a.p, b.p) && a.line == b.line && a.e == b.e
}

// lines fails unless a program is right, has these lines, and these lines are of that program.
func lines(t *testing.T, p api.Program, text string) {
	t.Helper()
	if got := toldOf(p); got != (told{true, text, api.OK}) {
		t.Fatalf("%s: %s; want %q", shown(p), shown(got), text)
	}
	if got := takenOf(text); !got.same(taken{p: p}) {
		t.Fatalf("%q: %s; want %s", text, shown(got), shown(p))
	}
}

// wrong fails if a program is right.
func wrong(t *testing.T, p api.Program) {
	t.Helper()
	if got := toldOf(p); got != (told{e: api.ErrArg}) {
		t.Fatalf("%s: %s", shown(p), shown(got))
	}
}

// stops fails unless a text is told to be none from this line on.
func stops(t *testing.T, text string, line int) {
	t.Helper()
	if got := takenOf(text); !got.same(taken{line: line, e: api.ErrShape}) || got.p.Ops != nil || got.p.Words != nil || got.p.Folds != nil {
		t.Fatalf("%.300q: %s; want %d", text, shown(got), line)
	}
}

// alike fails unless of a program is told what the chapter's words say.
func alike(t *testing.T, p api.Program) told {
	t.Helper()
	got, want := toldOf(p), modelTold(p)
	if got != want {
		t.Fatalf("%s: %s; want %s", shown(p), shown(got), shown(want))
	}
	return got
}

// reads fails unless of a text is told what the chapter's words say.
func reads(t *testing.T, text string) taken {
	t.Helper()
	got, want := takenOf(text), modelTaken(text)
	if !got.same(want) {
		t.Fatalf("%.300q: %s; want %s", text, shown(got), shown(want))
	}
	return got
}
