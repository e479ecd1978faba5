package plan_test

import (
	"reflect"
	"testing"

	"lattice/api"
	"lattice/plan"
	"lattice/syntax"
	"lattice/value"
)

// What is handed in is not changed and not kept; answers are new memory.

// spare is a list with room behind it, in which something stands.
func spare[T any](behind T, l ...T) []T {
	return append(append(make([]T, 0, len(l)+1), l...), behind)[:len(l)]
}

// whole is something with all the room behind its lists.
func whole(x any) any { return stretched(reflect.ValueOf(x)).Interface() }

func stretched(v reflect.Value) reflect.Value {
	out := reflect.New(v.Type()).Elem()
	switch v.Kind() {
	case reflect.Struct:
		for i := range v.NumField() {
			out.Field(i).Set(stretched(v.Field(i)))
		}
	case reflect.Slice:
		for i := range v.Cap() {
			out = reflect.Append(out, stretched(v.Slice(0, v.Cap()).Index(i)))
		}
	default:
		out.Set(v)
	}
	return out
}

// asked is all that is handed in, with room behind each list.
type asked struct {
	Clause api.Clause
	Vars   []api.Var
	Steps  []api.Step
	Picks  []int
	Place  api.Place
}

func roomy(t *testing.T) asked {
	c := clause(t, "(a:A:A {k: 1})-[r:U|T]->(b), (n) WHERE b.x = 2 AND a.k = $p AND 1 / a.k = 1")
	for i, p := range c.Paths {
		for j, n := range p.Nodes {
			p.Nodes[j].Labels = spare("Z", n.Labels...)
			p.Nodes[j].Props.Keys = spare("z", n.Props.Keys...)
		}
		for j, r := range p.Rels {
			p.Rels[j].Types = spare("Z", r.Types...)
		}
		c.Paths[i].Nodes, c.Paths[i].Rels = spare(api.NodePat{Var: "z"}, p.Nodes...), spare(api.RelPat{Var: "z"}, p.Rels...)
	}
	c.Paths = spare(api.Path{}, c.Paths...)
	list := api.Value{Kind: api.ValueList, List: spare(value.Int(-1), value.Int(1), value.Int(2))}
	return asked{
		c, spare(api.Var{Name: "z"}, vars("x n-n")...), spare(api.Step{Kind: 9}, steps(t, "seek 0 0 A k; where 1; rel 0 0; bound 1 0; where 0; where 2")...), spare(7, 3, 2, 1),
		api.Place{Columns: spare("z", "x", "n"), Row: spare(value.Int(-1), list, node(3)), Params: spare(api.Param{Name: "z"}, api.Param{Name: "l", Value: list}, api.Param{Name: "p", Value: value.Int(1)}, api.Param{Name: "q"})},
	}
}

func TestNothingIsChanged(t *testing.T) {
	x, g := roomy(t), world(t)
	before := g.Tell()
	for i := range len(x.Steps) + 1 {
		plan.Check(x.Clause, x.Vars, x.Steps[:i]...)
		plan.Choices(x.Clause, x.Vars, x.Steps[:i]...)
		plan.Find(g, x.Place, x.Clause, x.Steps[:i]...)
		plan.Text(x.Steps[:i]...)
		plan.Pick(x.Clause, x.Vars, x.Picks[:i/2]...)
	}
	plan.Plain(x.Clause, x.Vars...)
	if !reflect.DeepEqual(whole(x), whole(roomy(t))) {
		t.Error("something is changed")
	}
	if !reflect.DeepEqual(g.Tell(), before) {
		t.Error("the graph is changed")
	}
}

func TestAnswersAreNewMemory(t *testing.T) {
	x, g := roomy(t), world(t)
	const want = "[1, 2] n3 n0 r0 n1;[1, 2] n3 n0 r4 n1;[1, 2] n3 n1 r1 n2;"
	found, no := plan.Find(g, x.Place, x.Clause, x.Steps...)
	if got := rows(found, no); got != want {
		t.Fatal(got)
	}
	for i := range found {
		for j := range found[i] {
			if l := found[i][j].List; len(l) > 0 {
				l[0] = value.Int(int64(10 + i))
			}
			found[i] = append(found[i][:j+1], found[i][j+1:]...)
		}
		found[i][4] = value.Int(int64(i))
		_ = append(found[i], value.Int(-7))
	}
	if got := rows(found, no); got != "[10, 2] n3 n0 r0 0;[11, 2] n3 n0 r4 1;[12, 2] n3 n1 r1 2;" {
		t.Error(got)
	}
	if got := rows(plan.Find(g, x.Place, x.Clause, x.Steps...)); got != want {
		t.Error(got)
	}
	first, _ := plan.Plain(x.Clause, x.Vars...)
	choices, _ := plan.Choices(x.Clause, x.Vars, x.Steps[:2]...)
	picked, _ := plan.Pick(x.Clause, x.Vars, x.Picks...)
	texts := []string{line(first), line(choices), line(picked)}
	for _, l := range [][]api.Step{first, choices, picked} {
		for i := range l {
			l[i] = api.Step{Kind: 9}
		}
	}
	first, _ = plan.Plain(x.Clause, x.Vars...)
	choices, _ = plan.Choices(x.Clause, x.Vars, x.Steps[:2]...)
	picked, _ = plan.Pick(x.Clause, x.Vars, x.Picks...)
	if line(first) != texts[0] || line(choices) != texts[1] || line(picked) != texts[2] || !reflect.DeepEqual(whole(x), whole(roomy(t))) {
		t.Error(line(first), line(choices), line(picked))
	}
}

// Calls do not meet: they may go on side by side on what is handed in.
func TestSideBySide(t *testing.T) {
	x, g := roomy(t), world(t)
	want := rows(plan.Find(g, x.Place, x.Clause, x.Steps...))
	done := make(chan bool)
	for range 4 {
		go func() {
			ok := true
			for range 20 {
				l, no := plan.Pick(x.Clause, x.Vars, x.Picks...)
				ok = ok && no == api.OK && plan.Check(x.Clause, x.Vars, l...) == api.OK && rows(plan.Find(g, x.Place, x.Clause, l...)) == want
			}
			done <- ok
		}()
	}
	for range 4 {
		if !<-done {
			t.Error("another answer")
		}
	}
	if !syntax.Same(api.Query{Clauses: []api.Clause{x.Clause}}, api.Query{Clauses: []api.Clause{roomy(t).Clause}}) {
		t.Error("the clause is changed")
	}
}
