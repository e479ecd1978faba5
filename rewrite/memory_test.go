package rewrite_test

import (
	"reflect"
	"slices"
	"testing"

	"lattice/api"
	"lattice/rewrite"
)

// What is handed in is not changed and not kept; answers are new memory.

// input is all that is handed in.
type input struct {
	Clause api.Clause
	Vars   []api.Var
	Picks  []int
	Steps  []api.Step
}

// behind puts more behind a list, into room of its own, that is not in the list.
func behind[T any](l []T, more ...T) []T {
	return slices.Concat(l, more)[:len(l)]
}

// roomy has room behind each list, in which something stands.
func roomy(t *testing.T) input {
	x := input{clause(t, "(a:B:A {l: 1, k: 1})-[r:U|T]->(b:C), (n)--(b) WHERE b.x = 2 AND r.y = 3 AND 1 / a.k = 1"), behind(vars("x n-n"), api.Var{Name: "z"}), behind([]int{3, -1, 7, 100}, 9), behind(steps(t, "all 0 0; all 0 1; rel 0 0; where 0; bound 1 0; rel 1 0; where 1; where 2"), api.Step{Kind: 9}, api.Step{Kind: 8})}
	for i, p := range x.Clause.Paths {
		for j, n := range p.Nodes {
			p.Nodes[j].Labels = behind(n.Labels, "0", "Z")
			p.Nodes[j].Props.Keys = behind(n.Props.Keys, "0", "z")
		}
		x.Clause.Paths[i].Nodes, x.Clause.Paths[i].Rels = behind(p.Nodes, api.NodePat{Var: "z"}), behind(p.Rels, api.RelPat{Var: "z"})
	}
	x.Clause.Paths = behind(x.Clause.Paths, api.Path{})
	return x
}

// stretched is a value in which each list is as long as its room.
func stretched(v reflect.Value) reflect.Value {
	out := reflect.New(v.Type()).Elem()
	out.Set(v)
	if v.Kind() == reflect.Slice {
		out.Set(reflect.MakeSlice(v.Type(), v.Cap(), v.Cap()))
		for i := range v.Cap() {
			out.Index(i).Set(stretched(v.Slice(0, v.Cap()).Index(i)))
		}
	}
	if v.Kind() == reflect.Struct {
		for i := range v.NumField() {
			out.Field(i).Set(stretched(v.Field(i)))
		}
	}
	return out
}

// unchanged holds that all of an input, the room with it, is as it was made.
func unchanged(t *testing.T, x input) {
	t.Helper()
	if !reflect.DeepEqual(stretched(reflect.ValueOf(x)).Interface(), stretched(reflect.ValueOf(roomy(t))).Interface()) {
		t.Error("something is changed")
	}
}

func TestNothingIsChanged(t *testing.T) {
	x := roomy(t)
	all, no := rewrite.All(x.Clause, x.Vars, x.Steps...)
	if no != api.OK || len(all) < 10 {
		t.Fatal(len(all), no)
	}
	for _, r := range append(all, api.Rewrite{Kind: api.RewriteFuse}, api.Rewrite{Kind: 7}, api.Rewrite{Kind: api.RewriteSplit, At: len(x.Steps)}) {
		rewrite.Apply(x.Clause, x.Vars, r, x.Steps...)
		rewrite.Undo(x.Clause, x.Vars, r, x.Steps...)
		rewrite.Text(r)
	}
	for i := range len(x.Steps) + 1 {
		rewrite.All(x.Clause, x.Vars, x.Steps[:i]...)
		rewrite.Many(x.Clause, x.Vars, x.Picks, x.Steps[:i]...)
		rewrite.Early(x.Clause, x.Vars, x.Steps[:i]...)
		rewrite.Sharp(x.Clause, x.Vars, x.Steps[:i]...)
	}
	unchanged(t, x)
}

// answers are all lists of steps that calls answer for an input, also such that are as the plan was.
func answers(t *testing.T, x input) (l [][]api.Step) {
	put := func(steps []api.Step, no api.Errno) {
		if no != api.OK {
			t.Fatal(no)
		}
		l = append(l, steps)
	}
	for range 2 {
		all, _ := rewrite.All(x.Clause, x.Vars, x.Steps...)
		for _, r := range all {
			put(rewrite.Apply(x.Clause, x.Vars, r, x.Steps...))
		}
		for _, picks := range [][]int{nil, {}, x.Picks[:1], x.Picks} {
			put(rewrite.Many(x.Clause, x.Vars, picks, x.Steps...))
		}
		put(rewrite.Early(x.Clause, x.Vars, x.Steps...))
		put(rewrite.Sharp(x.Clause, x.Vars, x.Steps...))
		early, _ := rewrite.Early(x.Clause, x.Vars, x.Steps...)
		put(rewrite.Early(x.Clause, x.Vars, early...))
		sharp, _ := rewrite.Sharp(x.Clause, x.Vars, early...)
		put(rewrite.Sharp(x.Clause, x.Vars, sharp...))
	}
	return l
}

func TestAnswersAreNewMemory(t *testing.T) {
	x := roomy(t)
	l := answers(t, x)
	var want []string
	for _, s := range l {
		want = append(want, line(s))
	}
	for i, s := range l {
		if got := line(s); got != want[i] {
			t.Error(i, got, want[i])
		}
		s = s[:cap(s)]
		for j := range s {
			s[j] = api.Step{Kind: 9, Path: i}
		}
	}
	unchanged(t, x)
	for i, s := range answers(t, x) {
		if got := line(s); got != want[i] {
			t.Error(i, got, want[i])
		}
	}
	// What was answered does not hang on what becomes of what was handed in.
	made := answers(t, x)
	clear(x.Steps)
	clear(x.Clause.Paths)
	for i, s := range made {
		if got := line(s); got != want[i] {
			t.Error(i, got, want[i])
		}
	}
}

// Calls may go on side by side on what is handed in.
func TestSideBySide(t *testing.T) {
	x := roomy(t)
	want, _ := rewrite.Many(x.Clause, x.Vars, x.Picks, x.Steps...)
	done := make(chan []api.Step)
	for range 4 {
		go func() {
			var l []api.Step
			for range 10 {
				l, _ = rewrite.Many(x.Clause, x.Vars, x.Picks, x.Steps...)
				rewrite.Sharp(x.Clause, x.Vars, l...)
				rewrite.Early(x.Clause, x.Vars, x.Steps...)
			}
			done <- l
		}()
	}
	for range 4 {
		if l := <-done; !slices.Equal(l, want) {
			t.Error(line(l), line(want))
		}
	}
	unchanged(t, x)
}
