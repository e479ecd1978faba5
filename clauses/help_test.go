package clauses_test

import (
	"slices"
	"strconv"
	"strings"
	"testing"

	"lattice/api"
	"lattice/clauses"
	"lattice/graph"
	"lattice/match"
	"lattice/sema"
	"lattice/syntax"
	"lattice/value"
)

func node(n int64) api.Value { return api.Value{Kind: api.ValueNode, Int: n} }

func rel(n int64) api.Value { return api.Value{Kind: api.ValueRel, Int: n} }

func ints(l ...int64) []api.Value {
	var out []api.Value
	for _, n := range l {
		out = append(out, value.Int(n))
	}
	return out
}

// entry is a map with one key.
func entry(k string, v api.Value) api.Value {
	return api.Value{Kind: api.ValueMap, Keys: []string{k}, List: []api.Value{v}}
}

// nested is a value in so many lists.
func nested(n int, v api.Value) api.Value {
	for range n {
		v = api.Value{Kind: api.ValueList, List: []api.Value{v}}
	}
	return v
}

func prop(key string, v api.Value) api.Prop { return api.Prop{Key: key, Value: v} }

func param(name string, v api.Value) api.Param { return api.Param{Name: name, Value: v} }

// frame has variables, told as names with n: or r: ahead of those of nodes and of relationships; and rows.
func frame(vars string, rows ...[]api.Value) api.Frame {
	f := api.Frame{Rows: rows}
	for _, s := range strings.Fields(vars) {
		v := api.Var{Name: s}
		if name, is := strings.CutPrefix(s, "n:"); is {
			v = api.Var{Name: name, Kind: api.VarNode}
		}
		if name, is := strings.CutPrefix(s, "r:"); is {
			v = api.Var{Name: name, Kind: api.VarRel}
		}
		f.Vars = append(f.Vars, v)
	}
	return f
}

func row(l ...api.Value) []api.Value { return l }

func read(t *testing.T, text string) []api.Clause {
	t.Helper()
	q, at, no := syntax.Parse(text)
	if no != api.OK {
		t.Fatalf("%s: %v at %d", text, no, at)
	}
	return q.Clauses
}

func readExpr(t *testing.T, text string) api.Expr {
	t.Helper()
	e, at, no := syntax.ParseExpr(text)
	if no != api.OK {
		t.Fatalf("%s: %v at %d", text, no, at)
	}
	return e
}

func textOf(c api.Clause) string {
	s, _ := syntax.Print(api.Query{Clauses: []api.Clause{c}})
	return s
}

// empty is a graph of nothing.
func empty(t *testing.T) *graph.Graph { return made(t, api.Graph{}) }

func made(t *testing.T, a api.Graph) *graph.Graph {
	t.Helper()
	g, no := graph.Make(a)
	if no != api.OK {
		t.Fatal(no)
	}
	return g
}

// world is a graph: nodes 0 :A {k: 1}, 1 :A:B {k: 2, t: 'x'}, 2 :B {k: 1}, 3 of nothing; relationships 0 from 0 to 1 :T {w: 1}, 1 from 1 to 2 :T {w: 2}, 2 from 2 to 2 :U, 3 from 2 to 0 :V. Node 4 and relationship 4 are there no more.
func world(t *testing.T) *graph.Graph {
	t.Helper()
	return made(t, api.Graph{
		Nodes: []api.Node{
			{ID: 0, Labels: []string{"A"}, Props: []api.Prop{prop("k", value.Int(1))}},
			{ID: 1, Labels: []string{"A", "B"}, Props: []api.Prop{prop("k", value.Int(2)), prop("t", value.String("x"))}},
			{ID: 2, Labels: []string{"B"}, Props: []api.Prop{prop("k", value.Int(1))}},
			{ID: 3},
		},
		Rels: []api.Rel{
			{ID: 0, From: 0, To: 1, Type: "T", Props: []api.Prop{prop("w", value.Int(1))}},
			{ID: 1, From: 1, To: 2, Type: "T", Props: []api.Prop{prop("w", value.Int(2))}},
			{ID: 2, From: 2, To: 2, Type: "U"},
			{ID: 3, From: 2, To: 0, Type: "V"},
		},
		NextNode: 5, NextRel: 5,
	})
}

// plain is a graph of so many nodes.
func plain(t *testing.T, nodes int) *graph.Graph {
	t.Helper()
	a := api.Graph{NextNode: int64(nodes)}
	for i := range nodes {
		a.Nodes = append(a.Nodes, api.Node{ID: int64(i)})
	}
	return made(t, a)
}

// told is a frame's rows as a text, with ; behind each, nodes n0, relationships r0, other values as layer 1 tells them; or ! and what the error is called.
func told(f api.Frame, no api.Errno) string {
	if no != api.OK {
		if len(f.Vars) > 0 || len(f.Rows) > 0 {
			return "a frame beside an error"
		}
		return "!" + errorName(no)
	}
	var b strings.Builder
	for _, row := range f.Rows {
		for i, v := range row {
			if i > 0 {
				b.WriteString(" ")
			}
			b.WriteString(toldValue(v, api.OK))
		}
		b.WriteString(";")
	}
	return b.String()
}

func toldValue(v api.Value, no api.Errno) string {
	if no != api.OK {
		if !value.Same(v, value.Null()) {
			return "a value beside an error"
		}
		return "!" + errorName(no)
	}
	s, no := value.Text(v)
	if no != api.OK {
		return "a value that may not be"
	}
	return strings.NewReplacer("<", "", ">", "").Replace(s)
}

func toldVars(l []api.Var) string {
	var b []string
	for _, v := range l {
		b = append(b, []string{"", "n:", "r:"}[v.Kind]+v.Name)
	}
	return strings.Join(b, " ")
}

func errorName(no api.Errno) string {
	switch no {
	case api.ErrNil:
		return "nil"
	case api.ErrArg:
		return "arg"
	case api.ErrWrong:
		return "wrong"
	case api.ErrAttached:
		return "attached"
	case api.ErrMany:
		return "many"
	}
	return no.Error()
}

// drawn is a graph as a text: 0:A {k: 1}; 1; 0-T->1 {w: 1}; with the next numbers at the end.
func drawn(g *graph.Graph) string {
	var b strings.Builder
	props := func(l []api.Prop) {
		if len(l) > 0 {
			m := api.Value{Kind: api.ValueMap}
			for _, p := range l {
				m.Keys, m.List = append(m.Keys, p.Key), append(m.List, p.Value)
			}
			b.WriteString(" " + toldValue(m, api.OK))
		}
		b.WriteString("; ")
	}
	a := g.Tell()
	for _, n := range a.Nodes {
		b.WriteString(strings.Join(append([]string{strconv.FormatInt(n.ID, 10)}, n.Labels...), ":"))
		props(n.Props)
	}
	for _, r := range a.Rels {
		b.WriteString("r" + strconv.FormatInt(r.ID, 10) + " " + strconv.FormatInt(r.From, 10) + "-" + r.Type + "->" + strconv.FormatInt(r.To, 10))
		props(r.Props)
	}
	return b.String() + strconv.FormatInt(a.NextNode, 10) + " " + strconv.FormatInt(a.NextRel, 10)
}

// do does one clause, and holds what is promised of all of them: beside an error there is no frame, and the graph is as it was; so it is behind what does not write; the frame may be, has the variables that layer 6 tells, and its rows are in order, but behind RETURN.
func do(t *testing.T, g *graph.Graph, f api.Frame, c api.Clause, params ...api.Param) (api.Frame, api.Errno) {
	t.Helper()
	before := g.Tell()
	next, no := clauses.Do(g, f, c, params...)
	after := g.Tell()
	name := textOf(c)
	if no != api.OK {
		if next.Vars != nil || next.Rows != nil {
			t.Errorf("%s: a frame beside an error", name)
		}
		if !graph.Same(before, after) {
			t.Errorf("%s: %v, and the graph is changed", name, no)
		}
		return next, no
	}
	if graph.Check(after) != api.OK {
		t.Errorf("%s: a graph that may not be", name)
	}
	writes := slices.Contains([]api.ClauseKind{api.ClauseCreate, api.ClauseSet, api.ClauseRemove, api.ClauseDelete}, c.Kind)
	if !writes && !graph.Same(before, after) {
		t.Errorf("%s: the graph is changed", name)
	}
	vars, _ := sema.Clause(c, f.Vars...)
	if !slices.Equal(vars, next.Vars) || clauses.Check(next) != api.OK {
		t.Errorf("%s: %v, a frame that may not be", name, next.Vars)
	}
	for i := 1; i < len(next.Rows) && c.Kind != api.ClauseReturn; i++ {
		if match.Less(next.Rows[i], next.Rows[i-1]) {
			t.Errorf("%s: not in order: %s", name, told(next, no))
			break
		}
	}
	return next, no
}

// run does clauses one behind the other, up to the first that goes wrong.
func run(t *testing.T, g *graph.Graph, f api.Frame, text string, params ...api.Param) (api.Frame, api.Errno) {
	t.Helper()
	for _, c := range read(t, text) {
		next, no := do(t, g, f, c, params...)
		if no != api.OK {
			return next, no
		}
		f = next
	}
	return f, api.OK
}

// does is clauses, and what they make of a frame.
type does struct{ text, want string }

// hold holds what clauses make of a frame, each on a graph of its own, against what is wanted.
func hold(t *testing.T, g func(*testing.T) *graph.Graph, f api.Frame, l ...does) {
	t.Helper()
	for _, x := range l {
		if got := told(run(t, g(t), f, x.text)); got != x.want {
			t.Errorf("%s: %s, not %s", x.text, got, x.want)
		}
	}
}

// draws is clauses, what they make of a frame, and of a graph.
type draws struct{ text, want, graph string }

func holdGraphs(t *testing.T, g func(*testing.T) *graph.Graph, f api.Frame, l ...draws) {
	t.Helper()
	for _, x := range l {
		h := g(t)
		if got := told(run(t, h, f, x.text)); got != x.want {
			t.Errorf("%s: %s, not %s", x.text, got, x.want)
		}
		if got := drawn(h); got != x.graph {
			t.Errorf("%s: %s, not %s", x.text, got, x.graph)
		}
	}
}

// badValues are values that layer 1 refuses.
func badValues() map[string]api.Value {
	return map[string]api.Value{
		"no kind":           {Kind: 8},
		"a kind below 0":    {Kind: -1},
		"a number's text":   {Kind: api.ValueInt, Text: "x"},
		"a node's text":     {Kind: api.ValueNode, Text: "x"},
		"a node below 0":    node(-1),
		"a rel below 0":     rel(-1 << 63),
		"keys that fall":    {Kind: api.ValueMap, Keys: []string{"b", "a"}, List: make([]api.Value, 2)},
		"nothing with more": {Int: 1},
		"no UTF-8":          value.String("\xff"),
		"within a list":     value.List(value.String("\xff")),
		"too deep":          nested(api.MaxDepth, value.Null()),
		"too long a text":   value.String(strings.Repeat("t", api.MaxText+1)),
		"too long a list":   {Kind: api.ValueList, List: make([]api.Value, api.MaxRows+1)},
	}
}
