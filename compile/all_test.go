package compile_test

import (
	"math/rand"
	"strconv"
	"strings"
	"testing"

	"tinder/api"
	"tinder/early"
	"tinder/spread"
	"tinder/tree"
)

// sorts are what patterns are made of: leaves, and what stands about one pattern (X), or about two (X and Y).
type sorts struct{ leaves, ones, twos []string }

// patterns are all that are made of so many of these.
func (s sorts) patterns(many int) []string {
	if many == 1 {
		return s.leaves
	}
	var l []string
	for _, x := range s.patterns(many - 1) {
		for _, about := range s.ones {
			l = append(l, strings.Replace(about, "X", x, 1))
		}
	}
	for n := 1; n < many-1; n++ {
		for _, x := range s.patterns(n) {
			for _, y := range s.patterns(many - 1 - n) {
				for _, about := range s.twos {
					l = append(l, strings.NewReplacer("X", x, "Y", y).Replace(about))
				}
			}
		}
	}
	return l
}

// all holds all patterns of up to so many parts against the chapter's words, and tells how many become programs.
func (s sorts) all(t *testing.T, many int) int {
	done := 0
	for n := range many {
		for _, pattern := range s.patterns(n + 1) {
			// One that refers to no group is none.
			if x, _, e := early.Read(pattern, api.Flags{}, api.Tables{}); e == api.OK {
				done += count(plainly(t, x).e == api.OK)
			}
		}
	}
	return done
}

// TestAllPatterns: P15.1, P15.2, all small patterns, held against the chapter's words.
func TestAllPatterns(t *testing.T) {
	t.Parallel()
	s := sorts{
		leaves: []string{"a", "^", `\1`, "(?:)"},
		ones:   []string{"(X)", "(?:X)*", "(?:X)??", "(?:X){2}", "(?>X)", "(?<=X)", "(?!X)"},
		twos:   []string{"(?:XY)", "(?:X|Y)"},
	}
	if done := s.all(t, 5); done < 15000 {
		t.Error(done)
	}
}

// TestAllRounds: P15.1, P15.2, all patterns of a few more parts: rounds in rounds, with groups, below looks.
func TestAllRounds(t *testing.T) {
	t.Parallel()
	s := sorts{
		leaves: []string{"a"},
		ones:   []string{"(X)", "(?:X)+?", "(?:X){0,2}", "(?<!X)", "(?=X)"},
		twos:   []string{"(?:XY)"},
	}
	if done := s.all(t, 6); done < 5000 {
		t.Error(done)
	}
}

// maker makes patterns.
type maker struct {
	*rand.Rand
	groups int
	counts []int
}

// pick is one of a row, which is not empty.
func pick[E any](r *rand.Rand, l ...E) E { return l[r.Intn(len(l))] }

// somePattern is a pattern of all sorts of parts, at most so deep; it may refer to groups that are not there.
func somePattern(r *rand.Rand, deep int) string {
	m := &maker{Rand: r, counts: pick(r, []int{0, 1, 1, 2}, []int{0, 1, 2, 3}, []int{0, 1, 2, 3}, []int{0, 1, 2, 40, 1000})}
	return m.part(deep)
}

// part is some part of a pattern, its groups numbered on.
func (m *maker) part(deep int) string {
	if deep <= 1 {
		return pick(m.Rand, "a", "[b-dx]", "[]", "[^]", "^", "$", `\b`, `\B`, "(?:)", `\1`, `\2`)
	}
	switch m.Intn(8) {
	case 0, 1:
		return m.parts(deep-1, "")
	case 2:
		return m.parts(deep-1, "|")
	case 3, 4:
		return "(?:" + m.part(deep-1) + ")" + m.rounds()
	case 5:
		if m.groups < 20 {
			m.groups++
			return pick(m.Rand, "(", "(?<n"+strconv.Itoa(m.groups)+">") + m.part(deep-1) + ")"
		}
	}
	return pick(m.Rand, "(?>", "(?=", "(?!", "(?<=", "(?<!") + m.part(deep-1) + ")"
}

func (m *maker) parts(deep int, between string) string {
	var l []string
	for range 2 + m.Intn(3) {
		l = append(l, m.part(deep))
	}
	return "(?:" + strings.Join(l, between) + ")"
}

func (m *maker) rounds() string {
	from := pick(m.Rand, m.counts...)
	to := pick(m.Rand, "", strconv.Itoa(from), strconv.Itoa(min(from+1, 1000)), strconv.Itoa(min(from+2, 1000)))
	return "{" + strconv.Itoa(from) + "," + to + "}" + pick(m.Rand, "", "?", "+")
}

// someTree is the tree of some pattern.
func someTree(r *rand.Rand, deep int) api.Tree {
	for {
		if x, _, e := early.Read(somePattern(r, 1+r.Intn(deep)), api.Flags{}, api.Tables{}); e == api.OK {
			return x
		}
	}
}

func someFlags(r *rand.Rand) api.Flags {
	return api.Flags{Fold: r.Intn(2) > 0, Lines: r.Intn(2) > 0, All: r.Intn(2) > 0, Sticky: r.Intn(2) > 0}
}

func someTables(r *rand.Rand) api.Tables {
	return pick(r, api.Tables{}, folds('A', 'a', 0x17F, 's', 0x212A, 'k'), folds(1, 1), folds(7, 1000))
}

// TestSomePatterns: P15.1, P15.2, patterns of all sorts, with all flags, held against the chapter's words.
func TestSomePatterns(t *testing.T) {
	t.Parallel()
	r := rand.New(rand.NewSource(151))
	right, great, spreads, wide := 0, 0, 0, 0
	for range 6000 {
		x := someTree(r, 7)
		got := alike(t, x, someFlags(r), someTables(r))
		if got.e == api.ErrShape {
			t.Fatal(shown(x))
		}
		right += count(got.e == api.OK)
		great += count(got.e == api.ErrSize)
		spreads += count(got.e == api.ErrSize && spread.Size(x) <= 4000)
		wide += count(len(got.p.Ops) > 100)
	}
	if right < 4000 || great < 100 || spreads < 20 || wide < 300 {
		t.Error(right, great, spreads, wide)
	}
}

// TestAgain: P15.1, what a tree becomes, that becomes of it when it is spread: where that is written still, it has the same program.
func TestAgain(t *testing.T) {
	t.Parallel()
	r := rand.New(rand.NewSource(152))
	again := 0
	for range 3000 {
		x := someTree(r, 5)
		out, e := spread.Out(x)
		if e != api.OK || !tree.Right(out) {
			continue
		}
		again++
		if a, b := plainly(t, x), plainly(t, out); !a.same(b) {
			t.Fatal(shown(a), shown(b))
		}
	}
	if again < 1000 {
		t.Error(again)
	}
}
