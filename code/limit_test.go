package code_test

import (
	"slices"
	"strings"
	"testing"

	"tinder/api"
	"tinder/code"
)

// wide is a set of so many ranges, each of one code point.
func wide(n int) []api.Range {
	l := make([]api.Range, n)
	for i := range l {
		l[i] = api.Range{Lo: 2 * i, Hi: 2 * i}
	}
	return l
}

// TestMostOps: P14.1, P14.3, 2000 instructions, and one more.
func TestMostOps(t *testing.T) {
	for n := 1998; n <= 2002; n++ {
		p := program(slices.Repeat([]api.Op{yes()}, n-1)...)
		text := modelText(p)
		if n <= 2000 {
			lines(t, p, text)
		} else {
			wrong(t, p)
			stops(t, text, n+4)
		}
		stops(t, strings.TrimSuffix(text, "end\n"), n+3)
		stops(t, text+"ends\n", n+4)
		if n <= 2000 {
			p.Ops[0], p.Ops[n-2] = jump(n-1), split(n-1, 0)
			lines(t, p, modelText(p))
			p.Ops[0] = jump(n)
			wrong(t, p)
		}
	}
}

// TestMostRanges: P14.1, P14.2, P14.3, sets of 2000 ranges and of one more; the words may have more.
func TestMostRanges(t *testing.T) {
	for _, n := range []int{1, 1999, 2000, 2001, 2002, 5000} {
		for _, op := range []api.Op{{Kind: api.OpSet, Set: wide(n)}, {Kind: api.OpSet, Set: wide(n), Left: true}} {
			p := program(yes(), op)
			if n <= 2000 {
				lines(t, p, modelText(p))
			} else {
				wrong(t, p)
				stops(t, modelText(p), 7)
			}
		}
		p := program()
		p.Words = wide(n)
		lines(t, p, modelText(p))
		p.Words[n-1].Hi = top + 1
		wrong(t, p)
		stops(t, modelText(p), 5)
	}
}

// filled is a program whose lines have just so many bytes: many sets, and shorter lines.
func filled(t *testing.T, bytes int) api.Program {
	t.Helper()
	p := program()
	great := api.Op{Kind: api.OpSet, Set: wide(2000)}
	have, one := len(modelText(p)), len(modelLine(great))+1
	for ; have+one+50 < bytes; have += one {
		p.Ops = slices.Insert(p.Ops, 0, great)
	}
	for _, op := range []api.Op{{Kind: api.OpSet, Set: wide(1000)}, {Kind: api.OpSet, Set: wide(100)}, {Kind: api.OpSet, Set: wide(10)}} {
		for line := len(modelLine(op)) + 1; have+line+50 < bytes; have += line {
			p.Ops = slices.Insert(p.Ops, 0, op)
		}
	}
	// Lines of 4 bytes and of 7 are together of any number of bytes from 18 on.
	for ; (bytes-have)%4 != 0; have += 7 {
		p.Ops = slices.Insert(p.Ops, 0, mark(1))
	}
	for ; have < bytes; have += 4 {
		p.Ops = slices.Insert(p.Ops, 0, yes())
	}
	if len(modelText(p)) != bytes {
		t.Fatal(len(modelText(p)), bytes)
	}
	return p
}

// TestLongest: P14.2, P14.3, R2, lines of 2^20 bytes, and of more.
func TestLongest(t *testing.T) {
	t.Parallel()
	for more := -3; more <= 9; more++ {
		p := filled(t, 1<<20+more)
		text := modelText(p)
		if more <= 0 {
			lines(t, p, text)
			continue
		}
		if got := toldOf(p); got != (told{right: true, e: api.ErrLong}) {
			t.Fatal(more, got.right, len(got.text), got.e)
		}
		if got := takenOf(text); !got.same(taken{e: api.ErrLong}) {
			t.Fatal(more, got.line, got.e)
		}
		// What is not right is told ahead of that.
		p.Ops[0].Num = 99
		wrong(t, p)
	}
}

// TestLongHeads: P14.2, words and folds alone make lines too long.
func TestLongHeads(t *testing.T) {
	t.Parallel()
	p, q := program(), program()
	for c := 0; c+100 < top; c += 9 {
		p.Words = append(p.Words, api.Range{Lo: c, Hi: c + 5})
		q.Folds = append(q.Folds, api.Fold{From: c, To: c + 1})
	}
	for _, p := range []api.Program{p, q} {
		if got := toldOf(p); got != (told{right: true, e: api.ErrLong}) {
			t.Error(got.right, len(got.text), got.e)
		}
		p.Words, p.Folds = p.Words[:len(p.Words)/2], p.Folds[:len(p.Folds)/2]
		lines(t, p, modelText(p))
		p.Marks = -1
		wrong(t, p)
	}
	// As much as a right program may have, but for its words and folds.
	great := program(slices.Repeat([]api.Op{{Kind: api.OpSet, Set: wide(2000)}}, 1999)...)
	if got := toldOf(great); got != (told{right: true, e: api.ErrLong}) {
		t.Error(got.right, len(got.text), got.e)
	}
}

// TestLongTexts: P14.3, R2, texts of 2^20 bytes and of one more that are no lines, or too many.
func TestLongTexts(t *testing.T) {
	t.Parallel()
	for text, line := range map[string]int{
		" ":               1,
		"\n":              1,
		"\x00":            1,
		"program ":        1,
		"program 0 0 ":    1,
		headed("end\n"):   5,
		headed("yes\n"):   5,
		headed("end\n\n"): 5,
	} {
		many := strings.Repeat(text, 1<<20/len(text)+1)
		stops(t, many[:1<<20], line)
		if got := takenOf(many[:1<<20] + "\n"); !got.same(taken{e: api.ErrLong}) {
			t.Error(got.line, got.e)
		}
	}
	// Lines one and all, and far too many; the last ones may be none.
	fill := (1<<20 - len(headed(""))) / 4
	stops(t, headed(strings.Repeat("yes\n", fill)), 4+fill)
	stops(t, headed(strings.Repeat("end\n", fill)), 4+fill)
	stops(t, headed(strings.Repeat("yes\n", fill-1)+"no\n"), 3+fill)
	stops(t, headed("jump "+strings.Repeat("1", 1<<20-100)+"\n"), 4)
	stops(t, headed("jump "+strings.Repeat("0", 1<<20-100)+"\n"), 4)
	stops(t, headed("set "+strings.Repeat("1,", 1<<19-100)+"1\n"), 5)
	stops(t, headed("set "+strings.Repeat("1,", 1<<19-100)+"\n"), 4)
	stops(t, headed("set"+strings.Repeat(" ", 1<<20-100)+"\n"), 4)
	stops(t, "program 0 0 plain\nwords -\nfolds"+strings.Repeat(" 1>2", 1<<18-100)+"\n", 4)
	stops(t, "program 0 0 plain\nwords -\nfolds"+strings.Repeat(" 1>2", 1<<18-100)+" \n", 3)
}

// TestGreat: R1, R7, very great programs and texts come to an end.
func TestGreat(t *testing.T) {
	const n = 1 << 20
	points, words := make([]api.Fold, n), make([]api.Range, n/2)
	for i := range points {
		points[i] = api.Fold{From: i, To: top}
	}
	for i := range words {
		words[i] = api.Range{Lo: 2 * i, Hi: 2 * i}
	}
	for _, p := range []api.Program{
		{Ops: make([]api.Op, n)}, {Ops: slices.Repeat([]api.Op{end()}, n)}, {Ops: slices.Repeat([]api.Op{{Kind: api.OpSet, Set: words}}, n)}, program(api.Op{Kind: api.OpSet, Set: words}), program(api.Op{Kind: api.OpSet, Set: make([]api.Range, n)}), {Ops: []api.Op{end()}, Words: make([]api.Range, n)}, {Ops: []api.Op{end()}, Folds: make([]api.Fold, n)},
	} {
		if got := toldOf(p); got != (told{e: api.ErrArg}) {
			t.Error(got.right, len(got.text), got.e)
		}
	}
	p := program()
	p.Words, p.Folds = words, points
	if got := toldOf(p); got != (told{right: true, e: api.ErrLong}) {
		t.Error(got.right, len(got.text), got.e)
	}
	if p, line, e := code.Parse(strings.Repeat("end\n", n)); e != api.ErrLong || line != 0 || p.Ops != nil {
		t.Error(line, e)
	}
}
