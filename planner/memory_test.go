package planner_test

import (
	"reflect"
	"slices"
	"testing"

	"lattice/api"
	"lattice/planner"
)

// What is handed in is not changed and not kept; answers are new memory.

// input is all that is handed in.
type input struct {
	Clause api.Clause
	Vars   []api.Var
	Stats  api.Stats
	Steps  []api.Step
}

// behind puts more behind a list, into room of its own, that is not in the list.
func behind[T any](l []T, more ...T) []T {
	return slices.Concat(l, more)[:len(l)]
}

// roomy has room behind each list, in which something stands.
func roomy(t *testing.T) input {
	s := counts(t, many)
	s.Labels, s.Types = behind(s.Labels, api.LabelCount{Label: "A"}), behind(s.Types, api.TypeCount{Type: "V", Rels: 1})
	s.Ends, s.Keys = behind(s.Ends, api.EndCount{Type: "T"}), behind(s.Keys, api.KeyCount{Label: "A", Key: "k"})
	x := input{clause(t, "(a:B:A {l: 1, k: 1})-[r:U|T]->(b:C), (n) WHERE b.x = 2 AND 1 / a.k = 1"), behind(vars("x n-n"), api.Var{Name: "z"}), s, behind(steps(t, "all 0 0; all 0 1; rel 0 0; where 0; bound 1 0; where 1"), api.Step{Kind: 9}, api.Step{Kind: 8})}
	for i, p := range x.Clause.Paths {
		for j, n := range p.Nodes {
			p.Nodes[j].Labels = behind(n.Labels, "0", "Z")
			p.Nodes[j].Props.Keys = behind(n.Props.Keys, "0", "z")
		}
		for j, r := range p.Rels {
			p.Rels[j].Types = behind(r.Types, "0", "Z")
		}
		x.Clause.Paths[i].Nodes, x.Clause.Paths[i].Rels = behind(p.Nodes, api.NodePat{Var: "z"}), behind(p.Rels, api.RelPat{Var: "z"})
	}
	x.Clause.Paths = behind(x.Clause.Paths, api.Path{})
	return x
}

// stretched is a value in which each list is as long as its room.
func stretched(v reflect.Value) reflect.Value {
	out := reflect.New(v.Type()).Elem()
	out.Set(v)
	if v.Kind() == reflect.Slice {
		out.Set(reflect.MakeSlice(v.Type(), v.Cap(), v.Cap()))
		for i := range v.Cap() {
			out.Index(i).Set(stretched(v.Slice(0, v.Cap()).Index(i)))
		}
	}
	if v.Kind() == reflect.Struct {
		for i := range v.NumField() {
			out.Field(i).Set(stretched(v.Field(i)))
		}
	}
	return out
}

// unchanged holds that all of an input, the room with it, is as it was made.
func unchanged(t *testing.T, x input) {
	t.Helper()
	if !reflect.DeepEqual(stretched(reflect.ValueOf(x)).Interface(), stretched(reflect.ValueOf(roomy(t))).Interface()) {
		t.Error("something is changed")
	}
}

func TestNothingIsChanged(t *testing.T) {
	x := roomy(t)
	for i := range len(x.Steps) + 1 {
		planner.Rows(x.Clause, x.Vars, x.Stats, x.Steps[:i]...)
		planner.Cost(x.Clause, x.Vars, x.Stats, x.Steps[:i]...)
		planner.Text(x.Clause, x.Vars, x.Stats, x.Steps[:i]...)
	}
	for _, v := range [][]api.Var{x.Vars, x.Vars[:1], nil} {
		planner.Greedy(x.Clause, v, x.Stats)
		for _, tries := range []int{-1, 0, 1, 100, api.MaxTries, api.MaxTries + 1} {
			planner.Best(x.Clause, v, x.Stats, tries)
		}
	}
	unchanged(t, x)
}

// answers are what calls answer for an input.
func answers(t *testing.T, x input) (plans [][]api.Step, rows [][]int64) {
	put := func(l []api.Step, no api.Errno) {
		if no != api.OK {
			t.Fatal(no)
		}
		plans = append(plans, l)
	}
	for range 2 {
		put(planner.Greedy(x.Clause, x.Vars, x.Stats))
		for _, tries := range []int{0, 1, api.MaxTries} {
			l, all, no := planner.Best(x.Clause, x.Vars, x.Stats, tries)
			if all != (tries == api.MaxTries) {
				t.Fatal(tries, all)
			}
			put(l, no)
		}
		l, no := planner.Rows(x.Clause, x.Vars, x.Stats, x.Steps...)
		if no != api.OK {
			t.Fatal(no)
		}
		rows = append(rows, l)
	}
	return plans, rows
}

func TestAnswersAreNewMemory(t *testing.T) {
	x := roomy(t)
	tell := func(plans [][]api.Step, rows [][]int64) (l []string) {
		for _, p := range plans {
			l = append(l, line(p))
		}
		for _, r := range rows {
			l = append(l, numbers(r...))
		}
		return l
	}
	plans, rows := answers(t, x)
	want := tell(plans, rows)
	for i, p := range plans {
		if line(p) != want[i] {
			t.Error(i, line(p))
		}
		p = p[:cap(p)]
		for j := range p {
			p[j] = api.Step{Kind: 9, Path: i}
		}
	}
	for i, r := range rows {
		if numbers(r...) != want[len(plans)+i] {
			t.Error(i, r)
		}
		clear(r[:cap(r)])
	}
	unchanged(t, x)
	if got := tell(answers(t, x)); !slices.Equal(got, want) {
		t.Error(got, want)
	}
	// What was answered does not hang on what becomes of what was handed in.
	plans, rows = answers(t, x)
	clear(x.Steps)
	clear(x.Clause.Paths)
	clear(x.Stats.Labels)
	if got := tell(plans, rows); !slices.Equal(got, want) {
		t.Error(got, want)
	}
}

// Calls may go on side by side on what is handed in.
func TestSideBySide(t *testing.T) {
	x := roomy(t)
	want, _, _ := planner.Best(x.Clause, x.Vars, x.Stats, api.MaxTries)
	done := make(chan []api.Step)
	for range 4 {
		go func() {
			var l []api.Step
			for range 3 {
				l, _, _ = planner.Best(x.Clause, x.Vars, x.Stats, api.MaxTries)
				planner.Greedy(x.Clause, x.Vars, x.Stats)
				planner.Text(x.Clause, x.Vars, x.Stats, x.Steps...)
			}
			done <- l
		}()
	}
	for range 4 {
		if l := <-done; !slices.Equal(l, want) {
			t.Error(line(l), line(want))
		}
	}
	unchanged(t, x)
}
