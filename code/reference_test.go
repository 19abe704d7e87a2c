package code_test

import (
	"fmt"
	"reflect"
	"regexp"
	"slices"
	"strconv"
	"strings"

	"tinder/api"
	"tinder/fold"
	"tinder/ranges"
)

// modelParts are, by the table of the chapter, the fields that an instruction has beside its kind.
var modelParts = map[api.OpKind][]string{
	api.OpSet:    {"Set", "Left"},
	api.OpSplit:  {"To", "Else"},
	api.OpJump:   {"To"},
	api.OpMark:   {"Num"},
	api.OpCheck:  {"Num"},
	api.OpForget: {"Num", "Else"},
	api.OpOpen:   {"Num"},
	api.OpClose:  {"Num"},
	api.OpBack:   {"Num", "Left"},
	api.OpSpot:   {"Spot"},
	api.OpLook:   {"To", "Not"},
	api.OpAtomic: {"To"},
	api.OpYes:    {},
	api.OpEnd:    {},
}

// modelFits says whether an instruction has what its kind says, and nothing else.
func modelFits(p api.Program, op api.Op) bool {
	parts, is := modelParts[op.Kind]
	if !is {
		return false
	}
	v := reflect.ValueOf(op)
	for i := range v.NumField() {
		name, f := v.Type().Field(i).Name, v.Field(i)
		empty := f.IsZero() || f.Kind() == reflect.Slice && f.Len() == 0
		if name != "Kind" && !empty && !slices.Contains(parts, name) {
			return false
		}
	}
	within := func(least, n, most int) bool { return !(n < least || n > most) }
	length := len(p.Ops)
	for _, part := range parts {
		ok := true
		switch part {
		case "Set":
			ok = ranges.Right(op.Set) && len(op.Set) < 2001
		case "To":
			ok = within(0, op.To, length-1)
		case "Else":
			ok = op.Kind == api.OpSplit && within(0, op.Else, length-1) || op.Kind == api.OpForget && within(op.Num, op.Else, p.Groups)
		case "Num":
			marks := op.Kind == api.OpMark || op.Kind == api.OpCheck
			ok = marks && within(0, op.Num, p.Marks-1) || !marks && within(1, op.Num, p.Groups)
		case "Spot":
			ok = slices.Contains([]api.SpotKind{api.SpotStart, api.SpotEnd, api.SpotWord, api.SpotInner}, op.Spot)
		}
		if !ok {
			return false
		}
	}
	return true
}

// modelRight says whether a program is right.
func modelRight(p api.Program) bool {
	n := len(p.Ops)
	if n < 1 || n > 2000 || p.Groups < 0 || p.Groups > 20 || p.Marks < 0 || p.Marks > 2000 || !ranges.Right(p.Words) || !fold.Right(api.Tables{Folds: p.Folds}) {
		return false
	}
	if slices.IndexFunc(p.Ops, func(op api.Op) bool { return op.Kind == api.OpEnd }) != n-1 {
		return false
	}
	return !slices.ContainsFunc(p.Ops, func(op api.Op) bool { return !modelFits(p, op) })
}

func modelRanges(set []api.Range) string {
	var b strings.Builder
	for _, r := range set {
		fmt.Fprintf(&b, ",%x", r.Lo)
		if r.Hi != r.Lo {
			fmt.Fprintf(&b, "-%x", r.Hi)
		}
	}
	if b.Len() == 0 {
		return "-"
	}
	return b.String()[1:]
}

// modelLine is the line of an instruction, as the chapter's table has it.
func modelLine(op api.Op) string {
	left, not := "", ""
	if op.Left {
		left = "<"
	}
	if op.Not {
		not = "!"
	}
	return map[api.OpKind]string{
		api.OpSet:    "set" + left + " " + modelRanges(op.Set),
		api.OpSplit:  fmt.Sprintf("split %d %d", op.To, op.Else),
		api.OpJump:   fmt.Sprintf("jump %d", op.To),
		api.OpMark:   fmt.Sprintf("mark %d", op.Num),
		api.OpCheck:  fmt.Sprintf("check %d", op.Num),
		api.OpForget: fmt.Sprintf("forget %d %d", op.Num, op.Else),
		api.OpOpen:   fmt.Sprintf("open %d", op.Num),
		api.OpClose:  fmt.Sprintf("close %d", op.Num),
		api.OpBack:   fmt.Sprintf("back%s %d", left, op.Num),
		api.OpSpot:   "spot " + map[api.SpotKind]string{api.SpotStart: "start", api.SpotEnd: "end", api.SpotWord: "word", api.SpotInner: "inner"}[op.Spot],
		api.OpLook:   fmt.Sprintf("look%s %d", not, op.To),
		api.OpAtomic: fmt.Sprintf("atomic %d", op.To),
		api.OpYes:    "yes",
		api.OpEnd:    "end",
	}[op.Kind]
}

func modelText(p api.Program) string {
	mode := "plain"
	if p.Lines {
		mode = "lines"
	}
	var b strings.Builder
	fmt.Fprintf(&b, "program %d %d %s\nwords %s\nfolds", p.Groups, p.Marks, mode, modelRanges(p.Words))
	for _, f := range p.Folds {
		fmt.Fprintf(&b, " %x>%x", f.From, f.To)
	}
	b.WriteString("\n")
	for _, op := range p.Ops {
		b.WriteString(modelLine(op) + "\n")
	}
	return b.String()
}

func modelTold(p api.Program) told {
	if !modelRight(p) {
		return told{e: api.ErrArg}
	}
	text := modelText(p)
	if len(text) > 1048576 {
		return told{right: true, e: api.ErrLong}
	}
	return told{true, text, api.OK}
}

// Lines, by their signs. What these have of numbers is asked of their values still.
const (
	decimalSigns = `(0|[1-9][0-9]*)`
	hexSigns     = `(?:0|[1-9a-f][0-9a-f]*)`
	rangeSigns   = hexSigns + `(?:-` + hexSigns + `)?`
	setSigns     = `(-|` + rangeSigns + `(?:,` + rangeSigns + `)*)`
)

var (
	programLine = regexp.MustCompile(`^program ` + decimalSigns + ` ` + decimalSigns + ` (plain|lines)$`)
	wordsLine   = regexp.MustCompile(`^words ` + setSigns + `$`)
	foldsLine   = regexp.MustCompile(`^folds((?: ` + hexSigns + `>` + hexSigns + `)*)$`)
	opLine      = regexp.MustCompile(`^(?:(set<?) ` + setSigns + `|(split|forget) ` + decimalSigns + ` ` + decimalSigns + `|(jump|mark|check|open|close|back<?|look!?|atomic) ` + decimalSigns + `|spot (start|end|word|inner)|(yes|end))$`)
)

// modelNumbers are the values of numbers to a base; false, if one is too great.
func modelNumbers(base int, texts ...string) ([]int, bool) {
	var l []int
	for _, text := range texts {
		n, err := strconv.ParseInt(text, base, 64)
		if err != nil || n > 2147483647 {
			return nil, false
		}
		l = append(l, int(n))
	}
	return l, true
}

// modelSet is the ranges that a text of the right signs says, if it says any.
func modelSet(text string) ([]api.Range, bool) {
	var set []api.Range
	if text == "-" {
		return set, true
	}
	for _, part := range strings.Split(text, ",") {
		ends, ok := modelNumbers(16, strings.Split(part, "-")...)
		if !ok || len(ends) == 2 && ends[0] == ends[1] {
			return nil, false
		}
		set = append(set, api.Range{Lo: ends[0], Hi: ends[len(ends)-1]})
	}
	return set, true
}

var modelKinds = map[string]api.OpKind{
	"set": api.OpSet, "split": api.OpSplit, "jump": api.OpJump, "mark": api.OpMark, "check": api.OpCheck, "forget": api.OpForget, "open": api.OpOpen, "close": api.OpClose, "back": api.OpBack, "look": api.OpLook, "atomic": api.OpAtomic, "yes": api.OpYes, "end": api.OpEnd,
}

// modelOp is the instruction of a line, if that is one.
func modelOp(text string) (api.Op, bool) {
	m := opLine.FindStringSubmatch(text)
	if m == nil {
		return api.Op{}, false
	}
	word := m[1] + m[3] + m[6] + m[9]
	op := api.Op{Kind: modelKinds[strings.Trim(word, "<!")], Left: strings.HasSuffix(word, "<"), Not: strings.HasSuffix(word, "!")}
	ok := true
	var n []int
	switch {
	case m[1] != "":
		op.Set, ok = modelSet(m[2])
	case m[3] != "":
		if n, ok = modelNumbers(10, m[4], m[5]); ok && m[3] == "split" {
			op.To, op.Else = n[0], n[1]
		} else if ok {
			op.Num, op.Else = n[0], n[1]
		}
	case m[6] != "":
		if n, ok = modelNumbers(10, m[7]); ok && slices.Contains([]api.OpKind{api.OpJump, api.OpLook, api.OpAtomic}, op.Kind) {
			op.To = n[0]
		} else if ok {
			op.Num = n[0]
		}
	case m[8] != "":
		op.Kind = api.OpSpot
		op.Spot = map[string]api.SpotKind{"start": api.SpotStart, "end": api.SpotEnd, "word": api.SpotWord, "inner": api.SpotInner}[m[8]]
	}
	return op, ok
}

// modelPut puts what the line at a place says to a program, if it is one.
func modelPut(p *api.Program, at int, text string) bool {
	switch at {
	case 0:
		m := programLine.FindStringSubmatch(text)
		if m == nil {
			return false
		}
		n, ok := modelNumbers(10, m[1], m[2])
		if ok {
			p.Groups, p.Marks, p.Lines = n[0], n[1], m[3] == "lines"
		}
		return ok
	case 1:
		m := wordsLine.FindStringSubmatch(text)
		if m == nil {
			return false
		}
		words, ok := modelSet(m[1])
		p.Words = words
		return ok
	case 2:
		m := foldsLine.FindStringSubmatch(text)
		if m == nil {
			return false
		}
		for _, f := range strings.Fields(m[1]) {
			n, ok := modelNumbers(16, strings.Split(f, ">")...)
			if !ok {
				return false
			}
			p.Folds = append(p.Folds, api.Fold{From: n[0], To: n[1]})
		}
		return true
	}
	op, ok := modelOp(text)
	p.Ops = append(p.Ops, op)
	return ok
}

func modelTaken(s string) taken {
	if len(s) > 1048576 {
		return taken{e: api.ErrLong}
	}
	var p api.Program
	all := strings.SplitAfter(s, "\n")
	if last := len(all) - 1; all[last] == "" {
		all = all[:last]
	}
	for at, text := range all {
		body, whole := strings.CutSuffix(text, "\n")
		if !whole || !modelPut(&p, at, body) {
			return taken{line: at + 1, e: api.ErrShape}
		}
	}
	if !modelRight(p) {
		return taken{line: len(all) + 1, e: api.ErrShape}
	}
	return taken{p: p}
}
