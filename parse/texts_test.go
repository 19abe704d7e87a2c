package parse_test

import (
	"fmt"
	"strings"
	"testing"

	"tinder/api"
	"tinder/parse"
)

const top = api.MaxPoint

// name40 is a name of the greatest length.
var name40 = strings.Repeat("aZ_$09", 7)[:40]

var withFold = api.Flags{Fold: true}

// allFlags are those of any bits.
func allFlags() []api.Flags {
	var l []api.Flags
	for _, folded := range []bool{false, true} {
		for _, lines := range []bool{false, true} {
			for _, all := range []bool{false, true} {
				l = append(l, api.Flags{Fold: folded, Lines: lines, All: all}, api.Flags{Fold: folded, Lines: lines, All: all, Sticky: true})
			}
		}
	}
	return l
}

// of is a row of ranges, by their ends.
func of(ends ...int) []api.Range {
	l := make([]api.Range, len(ends)/2)
	for i := range l {
		l[i] = api.Range{Lo: ends[2*i], Hi: ends[2*i+1]}
	}
	return l
}

// apart is a set of so many ranges, no two of which touch, from 1 on.
func apart(n int) []api.Range {
	var l []api.Range
	for i := range n {
		l = append(l, api.Range{Lo: 3*i + 1, Hi: 3*i + 2})
	}
	return l
}

// tables are right: folds of letters, some of one canon, of a digit, of an end of lines; and sets with names.
func tables() api.Tables {
	return api.Tables{
		Folds: []api.Fold{{From: 10, To: 'n'}, {From: 'A', To: 'a'}, {From: 'B', To: 'a'}, {From: 'K', To: 'k'}, {From: 0x212A, To: 'k'}, {From: 0xFF10, To: '0'}},
		Props: []api.Prop{{Name: "Lu", Set: of('A', 'Z')}, {Name: "None"}, {Name: "Two", Set: of('k', 'k', 0x1F600, 0x1F600)}},
	}
}

// wrongTables are none that may be used.
func wrongTables() []api.Tables {
	l := []api.Tables{tables(), tables(), tables(), tables(), tables()}
	l[0].Folds[0].To = 'A'
	l[1].Folds[1].From = 10
	l[2].Folds[5].To = top + 1
	l[3].Props[1].Name = "Lu"
	l[4].Props[2].Set = of('k', 'k', 'l', 'l')
	return l
}

// setText is a set, in hexadecimal.
func setText(set []api.Range) string {
	var l []string
	for _, r := range set {
		if r.Lo == r.Hi {
			l = append(l, fmt.Sprintf("%X", r.Lo))
		} else {
			l = append(l, fmt.Sprintf("%X-%X", r.Lo, r.Hi))
		}
	}
	return "{" + strings.Join(l, ",") + "}"
}

// nodeText is a node without its kids.
func nodeText(n api.Node) string {
	not := ""
	if n.Not {
		not = "not "
	}
	switch n.Kind {
	case api.NodeEmpty:
		return "empty"
	case api.NodeSet:
		return setText(n.Set)
	case api.NodeSeq:
		return "seq"
	case api.NodeAlt:
		return "alt"
	case api.NodeGroup:
		return fmt.Sprintf("group %d", n.Group)
	case api.NodeAtomic:
		return "atomic"
	case api.NodeRepeat:
		return fmt.Sprintf("repeat %d %d %s", n.Min, n.Max, []string{"?", "greedy", "lazy", "own"}[n.Mode])
	case api.NodeBack:
		return "back"
	case api.NodeSpot:
		return []string{"?", "start", "end", "word", "inner"}[n.Spot]
	case api.NodeAhead:
		return not + "ahead"
	case api.NodeBehind:
		return not + "behind"
	}
	return fmt.Sprintf("%+v", n)
}

// nodesShown is a pattern node by node, each with its kids.
func nodesShown(r parse.Raw) []string {
	var l []string
	for _, n := range r.Tree.Nodes {
		text := nodeText(n)
		if len(n.Kids) > 0 {
			text += fmt.Sprint(n.Kids)
		}
		l = append(l, text)
	}
	return l
}

// groupsShown are a pattern's groups, with names and places, and what refers to groups.
func groupsShown(r parse.Raw) []string {
	var l []string
	for i, place := range r.Places {
		l = append(l, fmt.Sprintf("%q at %d", r.Tree.Names[i], place))
	}
	for _, ref := range r.Refs {
		l = append(l, fmt.Sprintf("%d refers to %d%q at %d", ref.Node, ref.Num, ref.Name, ref.At))
	}
	return l
}

// shown is all of a pattern.
func shown(r parse.Raw) string {
	return strings.Join(append(nodesShown(r), groupsShown(r)...), "; ")
}

// reads fails unless a pattern is read as that, whatever the flags.
func reads(t *testing.T, text, want string) {
	t.Helper()
	for _, flags := range allFlags() {
		readsWith(t, text, flags, api.Tables{}, want)
	}
}

// readsWith fails unless a pattern is read as that, with these flags and tables.
func readsWith(t *testing.T, text string, flags api.Flags, x api.Tables, want string) {
	t.Helper()
	r, at, e := alike(t, text, flags, x)
	if got := shown(r); got != want || at != 0 || e != api.OK {
		t.Errorf("%q, %v: %s, %d, %v; want %s", text, flags, got, at, e, want)
	}
}

// fails fails unless a pattern is none, whatever the flags: at that place, wherever the pattern begins.
func fails(t *testing.T, text string, e api.Errno, at int) {
	t.Helper()
	for _, flags := range allFlags() {
		failsAt(t, text, flags, e, at)
	}
	failsAt(t, "é|"+text, withFold, e, at+2)
	failsAt(t, "^"+text, withFold, e, at+1)
}

func failsAt(t *testing.T, text string, flags api.Flags, e api.Errno, at int) {
	t.Helper()
	if _, gotAt, got := alike(t, text, flags, tables()); got != e || gotAt != at {
		t.Errorf("%q, %v: %v at %d; want %v at %d", text, flags, got, gotAt, e, at)
	}
}
