package compile_test

import (
	"cmp"
	"math/rand"
	"reflect"
	"slices"
	"testing"

	"tinder/api"
)

// given is all that is handed in.
type given struct {
	X      api.Tree
	Flags  api.Flags
	Tables api.Tables
}

// samples are such as have answers of each sort, each in memory of its own.
func samples(t testing.TB) []given {
	r := rand.New(rand.NewSource(154))
	tables := folds('A', 'a', 0x17F, 's', 0x212A, 'k')
	tables.Props = []api.Prop{{Name: "L", Set: []api.Range{{Lo: 'A', Hi: 'Z'}}}, {Name: "N", Set: []api.Range{{Lo: '0', Hi: '9'}}}}
	var l []given
	for _, pattern := range []string{"[a-cx]", "[a-cx]{3}", "(?<=[a-cx]+)[]", `(?<n>[a-cx][b-dz])*\k<n>()`, `(?:(?<n>[a-cx])|(?<m>b)){2,3}\1`, "(?>[a-cx]{0,2}b)", "(?:[a-cx]{1000}){1000}", "(?:[a-cx]{500}){4}"} {
		for flags := range allFlags() {
			l = append(l, given{read(t, pattern), flags, tables})
		}
	}
	for _, x := range wrongTrees() {
		l = append(l, given{x, api.Flags{Fold: true}, tables})
	}
	for range 100 {
		l = append(l, given{someTree(r, 5), someFlags(r), someTables(r)})
	}
	each(&l, owned)
	return l
}

func answers(l []given) []answer {
	var out []answer
	for _, g := range l {
		out = append(out, answerOf(g.X, g.Flags, g.Tables))
	}
	return out
}

func sameAnswers(a, b []answer) bool { return slices.EqualFunc(a, b, answer.same) }

// each goes through all lists of what a pointer is of, each ahead of those that are in it.
func each(of any, do func(l reflect.Value)) { walk(reflect.ValueOf(of).Elem(), do) }

func walk(v reflect.Value, do func(l reflect.Value)) {
	switch v.Kind() {
	case reflect.Struct:
		for i := range v.NumField() {
			walk(v.Field(i), do)
		}
	case reflect.Slice:
		do(v)
		for i := range v.Len() {
			walk(v.Index(i), do)
		}
	}
}

// owned gives a list memory of its own.
func owned(l reflect.Value) {
	if l.Cap() > 0 {
		to := reflect.MakeSlice(l.Type(), l.Len(), l.Len())
		reflect.Copy(to, l)
		l.Set(to)
	}
}

// guard lays a list into a longer one: what is written behind its end is seen there.
func guard(l reflect.Value) {
	to := reflect.MakeSlice(l.Type(), l.Len()+2, l.Len()+2)
	reflect.Copy(to, l)
	to.Index(l.Len()).Set(odd(l.Type()))
	l.Set(to.Slice(0, l.Len()))
}

// reach makes a list as long as it can be, in memory of its own.
func reach(l reflect.Value) {
	l.Set(l.Slice(0, l.Cap()))
	owned(l)
}

// odd is what no list of a type has.
func odd(list reflect.Type) reflect.Value {
	for _, x := range []any{api.Node{Kind: 77, Group: -7}, api.Range{Lo: 7, Hi: -9}, api.Fold{From: -7, To: -7}, api.Prop{Name: "spoilt"}, api.Op{Kind: 77, Num: -7}, -77, "spoilt"} {
		if reflect.TypeOf(x) == list.Elem() {
			return reflect.ValueOf(x)
		}
	}
	panic(list.String())
}

// spoil writes over all lists of what a pointer is of, up to the ends of their memory.
func spoil(of any) {
	var all []reflect.Value
	each(of, func(l reflect.Value) { all = append(all, l.Slice(0, l.Cap())) })
	for _, l := range all {
		for i := range l.Len() {
			l.Index(i).Set(odd(l.Type()))
		}
	}
}

// apart says whether no two lists of all that pointers are of share memory, up to their ends.
func apart(of ...any) bool {
	var all [][2]uintptr
	for _, x := range of {
		each(x, func(l reflect.Value) {
			if l.Cap() > 0 {
				all = append(all, [2]uintptr{l.Pointer(), l.Pointer() + uintptr(l.Cap())*l.Type().Elem().Size()})
			}
		})
	}
	slices.SortFunc(all, func(a, b [2]uintptr) int { return cmp.Compare(a[0], b[0]) })
	for i := 1; i < len(all); i++ {
		if all[i][0] < all[i-1][1] {
			return false
		}
	}
	return true
}

// reached are the same, all lists as long as they can be.
func reached(l []given) []given {
	out := make([]given, len(l))
	copy(out, l)
	for i := range out {
		each(&out[i], reach)
	}
	return out
}

// TestMemory: R3, R4, no argument is changed, not even behind its end, and not by what is done to what was told; each answer is the same each time.
func TestMemory(t *testing.T) {
	l, want := samples(t), answers(samples(t))
	for i := range l {
		each(&l[i], guard)
	}
	before := reached(l)
	for range 3 {
		got := answers(l)
		if !sameAnswers(got, want) {
			t.Fatal("not alike")
		}
		for i := range got {
			spoil(&got[i].p)
		}
		if !reflect.DeepEqual(reached(l), before) {
			t.Fatal("changed")
		}
	}
}

// TestNewMemory: R3, what is told shares nothing with what is given, nor with what else is told; and no two lists of it share anything.
func TestNewMemory(t *testing.T) {
	l := samples(t)
	all := []any{&l}
	for range 2 {
		for _, a := range answers(l) {
			all = append(all, &a.p)
		}
	}
	if !apart(all...) {
		t.Error("shared")
	}
	if apart(&l, &l[0].X) {
		t.Error("this finds nothing that is shared")
	}
}

// TestNotKept: R3, what was told stays as it is when all that was given is written over, and is told anew of what then stands there.
func TestNotKept(t *testing.T) {
	l := samples(t)
	got, want := answers(l), answers(samples(t))
	for i := range l {
		spoil(&l[i])
	}
	if !sameAnswers(got, want) {
		t.Error("not as it was")
	}
	for _, a := range answers(l) {
		if !a.same(answer{e: api.ErrShape}) {
			t.Error("kept", shown(a))
		}
	}
}

// TestNilAndEmpty: R6, lists without elements and nil ones are one.
func TestNilAndEmpty(t *testing.T) {
	want := answers(samples(t))
	for _, many := range []int{0, 2} {
		l := samples(t)
		each(&l, func(list reflect.Value) {
			if list.Len() == 0 && many == 0 {
				list.SetZero()
			} else if list.Len() == 0 {
				list.Set(reflect.MakeSlice(list.Type(), 0, many))
			}
		})
		if !sameAnswers(answers(l), want) {
			t.Error(many)
		}
	}
}

// TestTogether: R4, what is told hangs on nothing but what is given: not on other calls that go on at the same time.
func TestTogether(t *testing.T) {
	l, want := samples(t), answers(samples(t))
	done := make(chan bool)
	for range 4 {
		go func() { done <- sameAnswers(answers(l), want) }()
	}
	for range 4 {
		if !<-done {
			t.Error("not alike")
		}
	}
}
