package code

import (
	"strconv"
	"strings"

	"tinder/api"
)

// writer puts lines behind one another.
type writer struct{ strings.Builder }

// line puts a line of some words behind all others.
func (w *writer) line(words ...string) {
	w.WriteString(strings.Join(words, " "))
	w.WriteByte('\n')
}

// written is a right program's lines; of one that has too many bytes of them, some of these, too many as well.
func written(p api.Program) string {
	w := &writer{}
	w.line("program", decimal(p.Groups), decimal(p.Marks), marked("plain", p.Lines, "lines"))
	w.line("words", rangesText(p.Words))
	w.line(foldWords(p.Folds)...)
	for _, op := range p.Ops {
		// 2000 sets of 2000 ranges are far more than may be told.
		if w.Len() > longest {
			break
		}
		w.line(opWords(op)...)
	}
	return w.String()
}

// opWords are the words of an instruction's line.
func opWords(op api.Op) []string {
	switch op.Kind {
	case api.OpSet:
		return []string{marked("set", op.Left, "set<"), rangesText(op.Set)}
	case api.OpSplit:
		return []string{"split", decimal(op.To), decimal(op.Else)}
	case api.OpJump:
		return []string{"jump", decimal(op.To)}
	case api.OpMark:
		return []string{"mark", decimal(op.Num)}
	case api.OpCheck:
		return []string{"check", decimal(op.Num)}
	case api.OpForget:
		return []string{"forget", decimal(op.Num), decimal(op.Else)}
	case api.OpOpen:
		return []string{"open", decimal(op.Num)}
	case api.OpClose:
		return []string{"close", decimal(op.Num)}
	case api.OpBack:
		return []string{marked("back", op.Left, "back<"), decimal(op.Num)}
	case api.OpSpot:
		return []string{"spot", spotWord(op.Spot)}
	case api.OpLook:
		return []string{marked("look", op.Not, "look!"), decimal(op.To)}
	case api.OpAtomic:
		return []string{"atomic", decimal(op.To)}
	case api.OpYes:
		return []string{"yes"}
	}
	return []string{"end"}
}

// foldWords are the words of the folds' line.
func foldWords(folds []api.Fold) []string {
	words := []string{"folds"}
	for _, f := range folds {
		words = append(words, hexadecimal(f.From)+">"+hexadecimal(f.To))
	}
	return words
}

// rangesText is the word of some ranges.
func rangesText(set []api.Range) string {
	if len(set) == 0 {
		return "-"
	}
	var texts []string
	for _, r := range set {
		text := hexadecimal(r.Lo)
		if r.Hi != r.Lo {
			text += "-" + hexadecimal(r.Hi)
		}
		texts = append(texts, text)
	}
	return strings.Join(texts, ",")
}

// spotWord is a spot's word; no word, if there is no such spot.
func spotWord(spot api.SpotKind) string {
	switch spot {
	case api.SpotStart:
		return "start"
	case api.SpotEnd:
		return "end"
	case api.SpotWord:
		return "word"
	case api.SpotInner:
		return "inner"
	}
	return ""
}

// marked is one word of two: the other one, if that is asked.
func marked(word string, is bool, other string) string {
	if is {
		return other
	}
	return word
}

func decimal(n int) string {
	return strconv.Itoa(n)
}

func hexadecimal(n int) string {
	return strconv.FormatInt(int64(n), 16)
}
