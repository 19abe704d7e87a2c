package code

import (
	"strings"

	"tinder/api"
)

// line is a line that is read: its words, and the instruction that they say.
type line struct {
	words
	op api.Op
}

func lineOf(l ...string) *line {
	return &line{words: l}
}

// row is how an instruction's line goes on behind its first word: what that word says of the instruction, and what reads the rest.
type row struct {
	op   api.Op
	rest func(l *line)
}

// rows are all, by the first words.
func rows() map[string]row {
	return map[string]row{
		"set":    {api.Op{Kind: api.OpSet}, (*line).readSet},
		"set<":   {api.Op{Kind: api.OpSet, Left: true}, (*line).readSet},
		"split":  {api.Op{Kind: api.OpSplit}, (*line).readToElse},
		"jump":   {api.Op{Kind: api.OpJump}, (*line).readTo},
		"mark":   {api.Op{Kind: api.OpMark}, (*line).readNum},
		"check":  {api.Op{Kind: api.OpCheck}, (*line).readNum},
		"forget": {api.Op{Kind: api.OpForget}, (*line).readNumElse},
		"open":   {api.Op{Kind: api.OpOpen}, (*line).readNum},
		"close":  {api.Op{Kind: api.OpClose}, (*line).readNum},
		"back":   {api.Op{Kind: api.OpBack}, (*line).readNum},
		"back<":  {api.Op{Kind: api.OpBack, Left: true}, (*line).readNum},
		"spot":   {api.Op{Kind: api.OpSpot}, (*line).readSpot},
		"look":   {api.Op{Kind: api.OpLook}, (*line).readTo},
		"look!":  {api.Op{Kind: api.OpLook, Not: true}, (*line).readTo},
		"atomic": {api.Op{Kind: api.OpAtomic}, (*line).readTo},
		"yes":    {api.Op{Kind: api.OpYes}, (*line).readNothing},
		"end":    {api.Op{Kind: api.OpEnd}, (*line).readNothing},
	}
}

func (l *line) readSet() {
	l.op.Set = l.ranges()
}

func (l *line) readTo() {
	l.op.To = l.decimal()
}

func (l *line) readToElse() {
	l.op.To, l.op.Else = l.decimal(), l.decimal()
}

func (l *line) readNum() {
	l.op.Num = l.decimal()
}

func (l *line) readNumElse() {
	l.op.Num, l.op.Else = l.decimal(), l.decimal()
}

func (l *line) readSpot() {
	l.op.Spot = l.spot()
}

func (l *line) readNothing() {}

// instruction reads the line of one, whichever it is.
func (l *line) instruction(rows map[string]row) api.Op {
	row, is := rows[l.next()]
	if !is {
		panic(none{})
	}
	l.op = row.op
	row.rest(l)
	return l.op
}

// read is the program that the lines of a text say, be it right or not, how many lines there are, and true; if one is none, how many stand ahead of that one, and false.
func read(s string) (p api.Program, lines int, ok bool) {
	defer func() {
		switch x := recover().(type) {
		case nil:
		case none:
			p, ok = api.Program{}, false
		default:
			panic(x)
		}
	}()
	rows := rows()
	for s != "" {
		text, rest, whole := strings.Cut(s, "\n")
		if !whole {
			panic(none{})
		}
		put(&p, lines, lineOf(strings.Split(text, " ")...), rows)
		lines, s = lines+1, rest
	}
	return p, lines, true
}

// put reads a line that stands behind so many others, and puts what it says to a program.
func put(p *api.Program, ahead int, l *line, rows map[string]row) {
	switch ahead {
	case 0:
		l.take("program")
		p.Groups, p.Marks, p.Lines = l.decimal(), l.decimal(), l.either("plain", "lines")
	case 1:
		l.take("words")
		p.Words = l.ranges()
	case 2:
		l.take("folds")
		p.Folds = l.folds()
	default:
		p.Ops = append(p.Ops, l.instruction(rows))
	}
	l.end()
}
