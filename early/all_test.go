package early_test

import (
	"math/rand"
	"slices"
	"strings"
	"testing"

	"tinder/api"
	"tinder/early"
	"tinder/parse"
	"tinder/tree"
)

// each goes through all texts of up to so many pieces, the empty one too.
func each(pieces []string, most int, do func(text string)) {
	do("")
	if most == 0 {
		return
	}
	for _, piece := range pieces {
		each(pieces, most-1, func(text string) {
			do(piece + text)
		})
	}
}

// TestAllTexts: P10.1, P10.3, P10.4, all short texts of some signs, held against the chapter's words; what is read is written.
func TestAllTexts(t *testing.T) {
	for name, x := range map[string]struct {
		pieces []string
		most   int
	}{
		"numbers": {[]string{"(", ")", `\1`, `\2`, "|", "*", "0"}, 5},
		"names":   {[]string{"(?<a>", "(?<b>", "(", ")", `\k<a>`, `\k<b>`, `\2`}, 5},
		"pairs":   {[]string{"(?<a>)", "(?<b>)", "()", `\k<a>`, `\k<b>`, `\1`, `\3`}, 5},
		"heads":   {[]string{"(?=", "(?<=", "(?>", "(", ")", `\1`, `\2+`}, 5},
		"signs":   {strings.Split(`(?<a>)\k1`, ""), 5},
	} {
		t.Run(name, func(t *testing.T) {
			t.Parallel()
			many := map[api.Errno]int{}
			each(x.pieces, x.most, func(text string) {
				got, _, e := alikeRead(t, text, api.Flags{}, api.Tables{})
				if tree.Right(got) != (e == api.OK) {
					t.Fatalf("%q: %v, %s", text, e, shown(got))
				}
				many[e]++
			})
			if name != "signs" && (many[api.OK] < 100 || many[api.ErrGroup] < 100) {
				t.Error(many)
			}
		})
	}
}

// someTerm is a term of a pattern, with groups, what refers to these, and other things.
func someTerm(r *rand.Rand, deep int) string {
	names := []string{"a", "b", "n", "x9", "_", name40}
	if deep > 0 && r.Intn(3) > 0 {
		heads := []string{"(", "(", "(", "(?<" + names[r.Intn(len(names))] + ">", "(?<" + names[r.Intn(len(names))] + ">", "(?:", "(?>", "(?=", "(?<!"}
		head := heads[r.Intn(len(heads))]
		tail := ")"
		if head != "(?=" && head != "(?<!" {
			tail += []string{"", "", "*", "{0,2}?", "++"}[r.Intn(5)]
		}
		return head + someChoice(r, deep-1) + tail
	}
	if r.Intn(2) > 0 {
		numbers := []string{`\1`, `\1`, `\2`, `\3`, `\4`, `\12`, `\20`, `\21`}
		if r.Intn(2) > 0 {
			return numbers[r.Intn(len(numbers))]
		}
		return `\k<` + names[r.Intn(len(names))] + ">"
	}
	l := []string{"a", "k", "é", ".", "^", "$", `\b`, `\d`, `\p{Lu}`, "[a-c]", "[^k]", "\U0001F600"}
	return l[r.Intn(len(l))]
}

func someChoice(r *rand.Rand, deep int) string {
	var b strings.Builder
	for range r.Intn(4) {
		if r.Intn(5) == 0 {
			b.WriteString("|")
		}
		b.WriteString(someTerm(r, deep))
	}
	return b.String()
}

// someRaw is a raw pattern that was read, resolved or not.
func someRaw(r *rand.Rand) parse.Raw {
	for {
		flags := allFlags()[r.Intn(16)]
		if x, _, e := parse.Read(someChoice(r, 1+r.Intn(4)), flags, tables()); e == api.OK && len(x.Tree.Nodes) > 2 {
			return x
		}
	}
}

// TestSomeTexts: P10.3, P10.4, patterns of all sorts, held against the chapter's words; what is read is written.
func TestSomeTexts(t *testing.T) {
	r := rand.New(rand.NewSource(10))
	many := map[api.Errno]int{}
	for range 60000 {
		text, flags := someChoice(r, r.Intn(5)), allFlags()[r.Intn(16)]
		x, _, e := alikeRead(t, text, flags, []api.Tables{tables(), tables(), {}}[r.Intn(3)])
		if tree.Right(x) != (e == api.OK) {
			t.Fatalf("%q: %v, %s", text, e, shown(x))
		}
		many[e]++
	}
	if many[api.OK] < 5000 || many[api.ErrGroup] < 5000 || many[api.ErrName] < 5000 {
		t.Error(many)
	}
}

// pick is one of a row, which is not empty.
func pick[E any](r *rand.Rand, l ...E) E { return l[r.Intn(len(l))] }

// bend changes one thing of a raw pattern, or nothing.
func bend(r *rand.Rand, x *parse.Raw) {
	number := func() int {
		return pick(r, -1, 0, 0, 1, 1, 2, 3, 4, 20, r.Intn(len(x.Tree.Nodes)+1), least, most)
	}
	name := func() string { return pick(r, "", "", "a", "b", "n", "x9", "1", "é", "a ", name40, name40+"a") }
	n := &x.Tree.Nodes[r.Intn(len(x.Tree.Nodes))]
	switch r.Intn(20) {
	case 0:
		n.Kind = api.NodeKind(r.Intn(15))
	case 1:
		n.Group = number()
	case 2:
		n.Set = pick(r, nil, []api.Range{}, of('a', 'a'), of(3, 1), of(1, 2, 3, 4))
	case 3:
		n.Kids = pick(r, nil, []int{}, []int{number()}, append(n.Kids, number()))
	case 4:
		n.Min, n.Max = pick(r, n.Min, number()), pick(r, n.Max, number())
	case 5:
		n.Mode, n.Spot = pick(r, n.Mode, 0, api.ModeOwn), pick(r, n.Spot, 0, api.SpotEnd)
	case 6:
		n.Not = !n.Not
	case 7:
		x.Places = append(x.Places, number())
	case 8:
		x.Tree.Names = append(x.Tree.Names, name())
	case 9:
		x.Refs = append(x.Refs, parse.Ref{Node: number(), Num: number(), Name: name()})
	default:
		bendRow(r, x, number, name)
	}
}

// bendRow changes one row of a raw pattern's lists, if there is one, or leaves it out.
func bendRow(r *rand.Rand, x *parse.Raw, number func() int, name func() string) {
	if len(x.Tree.Names) > 0 && r.Intn(2) > 0 && len(x.Places) > 0 {
		i, k := r.Intn(len(x.Tree.Names)), r.Intn(len(x.Places))
		switch r.Intn(12) {
		case 0:
			x.Tree.Names = slices.Delete(x.Tree.Names, i, i+1)
		case 1:
			x.Places = slices.Delete(x.Places, k, k+1)
		case 2, 3, 4, 5:
			x.Places[k] = number()
		default:
			x.Tree.Names[i] = name()
		}
		return
	}
	if len(x.Refs) == 0 {
		return
	}
	i, k := r.Intn(len(x.Refs)), r.Intn(len(x.Refs))
	switch r.Intn(12) {
	case 0:
		x.Refs = slices.Delete(x.Refs, i, i+1)
	case 1:
		x.Refs[i], x.Refs[k] = x.Refs[k], x.Refs[i]
	case 2:
		x.Refs[i].Node = number()
	case 3:
		x.Refs[i].Num = number()
	case 4:
		x.Refs[i].Name = name()
	case 5, 6:
		x.Refs[i].At = number()
	case 7, 8, 9:
		x.Refs[i].Num, x.Refs[i].Name = 0, name()
	default:
		x.Refs[i].Num, x.Refs[i].Name = number(), ""
	}
}

// TestSomeRaws: P10.1, raw patterns that were read, and the same bent, held against the chapter's words; what is resolved is written.
func TestSomeRaws(t *testing.T) {
	r := rand.New(rand.NewSource(11))
	many := map[api.Errno]int{}
	for range 30000 {
		x := someRaw(r)
		for range 4 {
			got, _, e := alike(t, x)
			if tree.Right(got) != (e == api.OK) {
				t.Fatalf("%s: %v, %s", shown(x), e, shown(got))
			}
			many[e]++
			bend(r, &x)
		}
	}
	if many[api.OK] < 5000 || many[api.ErrShape] < 5000 || many[api.ErrName] < 5000 || many[api.ErrGroup] < 5000 {
		t.Error(many)
	}
}

// TestByNameOrNumber: P10.4, references by name and by number to one group are the same tree.
func TestByNameOrNumber(t *testing.T) {
	r := rand.New(rand.NewSource(12))
	groups := []string{"", "a", "b", "n", "x9", "_", name40}
	for range 20000 {
		// Each group has its own name, in the order of the groups: what refers is put in (?: and ), so that no digit stands behind it.
		var b strings.Builder
		open, begun := 0, 0
		for range r.Intn(30) {
			switch k := r.Intn(6); {
			case k == 0 && begun < 6:
				begun++
				open++
				b.WriteString("(?<" + groups[begun] + ">")
			case k == 1 && open > 0:
				open--
				b.WriteString(")")
			case k == 2:
				b.WriteString("\x00")
			default:
				b.WriteString(pick(r, "a", "|", "(?=b)", `\d`, ".", "7"))
			}
		}
		b.WriteString(strings.Repeat(")", open))
		byName, byNumber := "", ""
		for i, piece := range strings.Split(b.String(), "\x00") {
			if i > 0 && begun > 0 {
				n := 1 + r.Intn(begun)
				byName += `(?:\k<` + groups[n] + ">)*"
				byNumber += `(?:\` + string(rune('0'+n)) + ")*"
			}
			byName, byNumber = byName+piece, byNumber+piece
		}
		flags := allFlags()[r.Intn(16)]
		x, _, e := early.Read(byName, flags, tables())
		y, _, e2 := early.Read(byNumber, flags, tables())
		if e != api.OK || e2 != api.OK || !same(x, y) || !tree.Right(x) {
			t.Fatalf("%q, %q: %v, %v; %s; %s", byName, byNumber, e, e2, shown(x), shown(y))
		}
	}
}
