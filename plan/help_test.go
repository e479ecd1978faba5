package plan_test

import (
	"slices"
	"strconv"
	"strings"
	"testing"

	"lattice/api"
	"lattice/graph"
	"lattice/plan"
	"lattice/query"
	"lattice/syntax"
	"lattice/value"
)

// clause reads one clause; of a text that begins with a path, MATCH stands ahead.
func clause(t testing.TB, text string) api.Clause {
	t.Helper()
	if strings.HasPrefix(text, "(") {
		text = "MATCH " + text
	}
	q, at, no := syntax.Parse(text)
	if no != api.OK {
		t.Fatalf("%s: %v at %d", text, no, at)
	}
	return q.Clauses[0]
}

// vars reads variables: names, those of nodes with n- ahead, of relationships with r-.
func vars(text string) (l []api.Var) {
	for _, s := range strings.Fields(text) {
		v := api.Var{Name: s}
		if name, is := strings.CutPrefix(s, "n-"); is {
			v = api.Var{Name: name, Kind: api.VarNode}
		} else if name, is := strings.CutPrefix(s, "r-"); is {
			v = api.Var{Name: name, Kind: api.VarRel}
		}
		l = append(l, v)
	}
	return l
}

// steps reads steps as Text tells them, with ; between.
func steps(t testing.TB, text string) (l []api.Step) {
	t.Helper()
	kinds := []string{"all", "label", "seek", "bound", "rel", "where"}
	for _, line := range strings.Split(text, ";") {
		w := append(strings.Fields(line), "", "", "", "")
		if w[0] == "" {
			continue
		}
		s := api.Step{Kind: api.StepKind(slices.Index(kinds, w[0]))}
		n, err := strconv.Atoi(w[1])
		if s.Kind == api.StepWhere {
			s.Cond = n
		} else {
			s.Path = n
			s.Part, _ = strconv.Atoi(w[2])
			s.Label, s.Key = w[3], w[4]
		}
		if s.Kind == api.StepRel {
			s.Back, s.Label = w[3] == "back", ""
		}
		if s.Kind < 0 || err != nil {
			t.Fatal(line)
		}
		l = append(l, s)
	}
	return l
}

// line tells steps with ; between.
func line(l []api.Step) string {
	return strings.ReplaceAll(strings.TrimSuffix(plan.Text(l...), "\n"), "\n", "; ")
}

// told is line; or the error.
func told(l []api.Step, no api.Errno) string {
	if no == api.OK {
		return line(l)
	}
	if len(l) > 0 {
		return "steps beside an error"
	}
	return no.Error()
}

// made is the graph that a query leaves.
func made(t testing.TB, text string) *graph.Graph {
	t.Helper()
	a, no := query.Text(api.Graph{}, text)
	if no != api.OK {
		t.Fatal(text, no)
	}
	g, no := graph.Make(a.Graph)
	if no != api.OK {
		t.Fatal(text, no)
	}
	return g
}

// world is a graph: nodes 0 :A {k: 1, y: 3}, 1 :A:B {k: 1, x: 2}, 2 :B {k: 2, x: 2}, 3 of nothing; relationships 0 from 0 to 1 :T {w: 1}, 1 from 1 to 2 :T {w: 2}, 2 from 2 to 2 :U, 3 from 2 to 0 :U {w: 1}, 4 from 0 to 1 :U. Node 4 and relationship 5 are there no more.
func world(t testing.TB) *graph.Graph {
	t.Helper()
	g := made(t, "CREATE (a:A {k: 1, y: 3}), (b:A:B {k: 1, x: 2}), (c:B {k: 2, x: 2}), (), (e:A {k: 1}) CREATE (a)-[:T {w: 1}]->(b)-[:T {w: 2}]->(c)-[:U]->(c)-[:U {w: 1}]->(a)-[:U]->(b), (a)-[:T]->(e)")
	if g.Drop(true, 5) != api.OK || g.Drop(false, 4) != api.OK {
		t.Fatal(g.Tell())
	}
	return g
}

func node(n int64) api.Value { return api.Value{Kind: api.ValueNode, Int: n} }

func rel(n int64) api.Value { return api.Value{Kind: api.ValueRel, Int: n} }

// place has columns, by turns a name and a value; those with $ ahead are parameters.
func place(l ...any) (p api.Place) {
	for i := 0; i < len(l); i += 2 {
		v := l[i+1].(api.Value)
		if name, is := strings.CutPrefix(l[i].(string), "$"); is {
			p.Params = append(p.Params, api.Param{Name: name, Value: v})
		} else {
			p.Columns, p.Row = append(p.Columns, name), append(p.Row, v)
		}
	}
	return p
}

// rows is what is found as a text: rows with ; behind each, nodes n0, relationships r0, other values as layer 1 tells them; or the error.
func rows(l [][]api.Value, no api.Errno) string {
	if no != api.OK {
		if len(l) > 0 {
			return "rows beside an error"
		}
		return no.Error()
	}
	var b strings.Builder
	for _, row := range l {
		for i, v := range row {
			if i > 0 {
				b.WriteString(" ")
			}
			s, _ := value.Text(v)
			b.WriteString(strings.Trim(s, "<>"))
		}
		b.WriteString(";")
	}
	return b.String()
}

const (
	errArg   = "error 2"
	errPlan  = "error 230"
	errWrong = "error 190"
)
