package code

import (
	"strconv"
	"strings"

	"tinder/api"
)

// none ends all reading: a line is none.
type none struct{}

// words are those of a line that are still to be read. Each call reads some of them; where they are not as they must be, the line is none.
type words []string

func (w *words) next() string {
	if len(*w) == 0 {
		panic(none{})
	}
	word := (*w)[0]
	*w = (*w)[1:]
	return word
}

// take reads a word that must be this one.
func (w *words) take(word string) {
	if w.next() != word {
		panic(none{})
	}
}

// end asks that no word is left.
func (w *words) end() {
	if len(*w) > 0 {
		panic(none{})
	}
}

func (w *words) decimal() int {
	return number(w.next(), 10)
}

// either reads one of two words, and tells whether it is the second.
func (w *words) either(first, second string) bool {
	word := w.next()
	if word != first && word != second {
		panic(none{})
	}
	return word == second
}

func (w *words) ranges() []api.Range {
	word := w.next()
	if word == "-" {
		return nil
	}
	var set []api.Range
	for text := range strings.SplitSeq(word, ",") {
		set = append(set, rangeOf(text))
	}
	return set
}

// folds reads all words that are left.
func (w *words) folds() []api.Fold {
	var folds []api.Fold
	for len(*w) > 0 {
		from, to, _ := strings.Cut(w.next(), ">")
		folds = append(folds, api.Fold{From: number(from, 16), To: number(to, 16)})
	}
	return folds
}

func (w *words) spot() api.SpotKind {
	word := w.next()
	for spot := api.SpotStart; spot <= api.SpotInner; spot++ {
		if word == spotWord(spot) {
			return spot
		}
	}
	panic(none{})
}

// rangeOf is a range, right or not; one code point alone has no second end.
func rangeOf(text string) api.Range {
	from, to, two := strings.Cut(text, "-")
	r := api.Range{Lo: number(from, 16)}
	r.Hi = r.Lo
	if two {
		r.Hi = number(to, 16)
	}
	if two && r.Hi == r.Lo {
		panic(none{})
	}
	return r
}

// number is a number to a base.
func number(text string, base int) int {
	n, err := strconv.ParseUint(text, base, 31)
	// What is not as it would be told is none: with a 0 ahead of others, or with great letters.
	if err != nil || strconv.FormatUint(n, base) != text {
		panic(none{})
	}
	return int(n)
}
