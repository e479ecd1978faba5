package query_test

import (
	"reflect"
	"slices"
	"strconv"
	"strings"
	"testing"

	"lattice/api"
	"lattice/clauses"
	"lattice/graph"
	"lattice/query"
	"lattice/sema"
	"lattice/syntax"
	"lattice/value"
)

func node(n int64) api.Value { return api.Value{Kind: api.ValueNode, Int: n} }

func rel(n int64) api.Value { return api.Value{Kind: api.ValueRel, Int: n} }

func prop(key string, v api.Value) api.Prop { return api.Prop{Key: key, Value: v} }

func param(name string, v api.Value) api.Param { return api.Param{Name: name, Value: v} }

func row(l ...api.Value) []api.Value { return l }

// nested is a value in so many lists.
func nested(n int, v api.Value) api.Value {
	for range n {
		v = api.Value{Kind: api.ValueList, List: []api.Value{v}}
	}
	return v
}

func read(t *testing.T, text string) api.Query {
	t.Helper()
	q, at, no := syntax.Parse(text)
	if no != api.OK {
		t.Fatalf("%s: %v at %d", text, no, at)
	}
	return q
}

func readExpr(t *testing.T, text string) api.Expr {
	t.Helper()
	e, at, no := syntax.ParseExpr(text)
	if no != api.OK {
		t.Fatalf("%s: %v at %d", text, no, at)
	}
	return e
}

// empty is a graph of nothing.
func empty() api.Graph { return api.Graph{} }

// world is a graph: nodes 0 :A {k: 1}, 1 :A:B {k: 2, t: 'x'}, 2 :B {k: 1}, 3 of nothing; relationships 0 from 0 to 1 :T {w: 1}, 1 from 1 to 2 :T {w: 2}, 2 from 2 to 2 :U, 3 from 2 to 0 :V. Node 4 and relationship 4 are there no more.
func world() api.Graph {
	return api.Graph{
		Nodes: []api.Node{
			{ID: 0, Labels: []string{"A"}, Props: []api.Prop{prop("k", value.Int(1))}},
			{ID: 1, Labels: []string{"A", "B"}, Props: []api.Prop{prop("k", value.Int(2)), prop("t", value.String("x"))}},
			{ID: 2, Labels: []string{"B"}, Props: []api.Prop{prop("k", value.Int(1))}},
			{ID: 3},
		},
		Rels: []api.Rel{
			{ID: 0, From: 0, To: 1, Type: "T", Props: []api.Prop{prop("w", value.Int(1))}},
			{ID: 1, From: 1, To: 2, Type: "T", Props: []api.Prop{prop("w", value.Int(2))}},
			{ID: 2, From: 2, To: 2, Type: "U"},
			{ID: 3, From: 2, To: 0, Type: "V"},
		},
		NextNode: 5, NextRel: 5,
	}
}

// worldDrawn is the world as drawn tells it.
const worldDrawn = "0:A {k: 1}; 1:A:B {k: 2, t: 'x'}; 2:B {k: 1}; 3; r0 0-T->1 {w: 1}; r1 1-T->2 {w: 2}; r2 2-U->2; r3 2-V->0; 5 5"

// plain is a graph of so many nodes.
func plain(nodes int) api.Graph {
	a := api.Graph{NextNode: int64(nodes)}
	for i := range nodes {
		a.Nodes = append(a.Nodes, api.Node{ID: int64(i)})
	}
	return a
}

// told is a table as a text: its columns, a :, its rows, each with a ; behind; nodes n0, relationships r0, other values as layer 1 tells them. Nothing of a table without columns and rows.
func told(t api.Table) string {
	if len(t.Columns) == 0 && len(t.Rows) == 0 {
		return ""
	}
	return strings.Join(t.Columns, ", ") + ": " + toldRows(t.Rows)
}

func toldRows(rows [][]api.Value) string {
	var b strings.Builder
	for _, row := range rows {
		for i, v := range row {
			if i > 0 {
				b.WriteString(" ")
			}
			b.WriteString(toldValue(v))
		}
		b.WriteString(";")
	}
	return b.String()
}

func toldValue(v api.Value) string {
	s, no := value.Text(v)
	if no != api.OK {
		return "a value that may not be"
	}
	return strings.NewReplacer("<", "", ">", "").Replace(s)
}

// toldFrame is a frame as a text: its variables, with n: or r: ahead of those of nodes and of relationships, a :, its rows.
func toldFrame(f api.Frame) string {
	var b []string
	for _, v := range f.Vars {
		b = append(b, []string{"", "n:", "r:"}[v.Kind]+v.Name)
	}
	return strings.Join(b, " ") + ": " + toldRows(f.Rows)
}

// drawn is a graph as a text: 0:A {k: 1}; 1; r0 0-T->1 {w: 1}; with the next numbers at the end.
func drawn(a api.Graph) string {
	var b strings.Builder
	props := func(l []api.Prop) {
		if len(l) > 0 {
			m := api.Value{Kind: api.ValueMap}
			for _, p := range l {
				m.Keys, m.List = append(m.Keys, p.Key), append(m.List, p.Value)
			}
			b.WriteString(" " + toldValue(m))
		}
		b.WriteString("; ")
	}
	for _, n := range a.Nodes {
		b.WriteString(strings.Join(append([]string{strconv.FormatInt(n.ID, 10)}, n.Labels...), ":"))
		props(n.Props)
	}
	for _, r := range a.Rels {
		b.WriteString("r" + strconv.FormatInt(r.ID, 10) + " " + strconv.FormatInt(r.From, 10) + "-" + r.Type + "->" + strconv.FormatInt(r.To, 10))
		props(r.Props)
	}
	return b.String() + strconv.FormatInt(a.NextNode, 10) + " " + strconv.FormatInt(a.NextRel, 10)
}

// early tells whether an error is one that is told ahead of the first clause.
func early(no api.Errno) bool {
	return no != api.OK && no != api.ErrWrong && no != api.ErrAttached && no != api.ErrMany
}

// run runs a query by all calls that run it, and holds them against each other, and against what is promised of all: what is handed in stays as it was; beside an error all else is zero, and Ask tells it, if it is told ahead of the first clause; else the graph may be, and is as it was behind a query that does not write; there is a frame behind each clause, with the variables that layer 6 tells; the table is the last one, behind RETURN, and has no columns and no rows without.
func run(t *testing.T, g api.Graph, text string, params ...api.Param) (api.Answer, api.Errno) {
	t.Helper()
	q := read(t, text)
	answer, no := runQuery(t, g, q, params...)
	again, other := query.Text(g, text, params...)
	if other != no || !reflect.DeepEqual(again, answer) {
		t.Errorf("%s: %v, as a text %v; %s, %s", text, no, other, told(answer.Table), told(again.Table))
	}
	return answer, no
}

func runQuery(t *testing.T, g api.Graph, q api.Query, params ...api.Param) (api.Answer, api.Errno) {
	t.Helper()
	heldGraph, heldQuery, heldParams := graph.Copy(g), syntax.CopyQuery(q), copyParams(params)
	answer, no := query.Run(g, q, params...)
	frames, other := query.Frames(g, q, params...)
	ask := query.Ask(g, q, params...)
	text, _ := syntax.Print(q)
	if !reflect.DeepEqual(g, heldGraph) || !reflect.DeepEqual(q, heldQuery) || !reflect.DeepEqual(params, heldParams) {
		t.Errorf("%s: what was handed in is changed", text)
	}
	if other != no || early(no) && ask != no || !early(no) && ask != api.OK {
		t.Errorf("%s: Run %v, Frames %v, Ask %v", text, no, other, ask)
	}
	if no != api.OK {
		if !reflect.DeepEqual(answer, api.Answer{}) || frames != nil {
			t.Errorf("%s: %v, and more than that", text, no)
		}
		return answer, no
	}
	holdAnswer(t, g, q, answer, frames)
	return answer, no
}

func copyParams(l []api.Param) []api.Param {
	out := slices.Clone(l)
	for i := range out {
		out[i].Value = value.Copy(out[i].Value)
	}
	return out
}

func holdAnswer(t *testing.T, g api.Graph, q api.Query, answer api.Answer, frames []api.Frame) {
	t.Helper()
	text, _ := syntax.Print(q)
	shape, _, no := sema.Check(q)
	if no != api.OK {
		t.Fatalf("%s: %v", text, no)
	}
	if graph.Check(answer.Graph) != api.OK || !shape.Writes && !graph.Same(answer.Graph, g) {
		t.Errorf("%s: the graph is %s", text, drawn(answer.Graph))
	}
	if len(frames) != len(q.Clauses) {
		t.Fatalf("%s: %d frames", text, len(frames))
	}
	for i, f := range frames {
		if clauses.Check(f) != api.OK || !slices.Equal(f.Vars, shape.Behind[i]) {
			t.Errorf("%s: %d: %s", text, i, toldFrame(f))
		}
	}
	want := api.Table{}
	if last := len(frames) - 1; q.Clauses[last].Kind == api.ClauseReturn {
		want = api.Table{Columns: shape.Columns, Rows: frames[last].Rows}
	}
	if !query.Same(answer.Table, want) {
		t.Errorf("%s: %s, not %s", text, told(answer.Table), told(want))
	}
}

// means is a query, its table, and the graph behind it.
type means struct{ text, table, graph string }

// hold holds what queries mean on a graph against what is wanted.
func hold(t *testing.T, g api.Graph, params []api.Param, l ...means) {
	t.Helper()
	for _, x := range l {
		a, no := run(t, g, x.text, params...)
		if no != api.OK || told(a.Table) != x.table || drawn(a.Graph) != x.graph {
			t.Errorf("%s: %v; %s, not %s; %s, not %s", x.text, no, told(a.Table), x.table, drawn(a.Graph), x.graph)
		}
	}
}

// refused holds the error of queries on a graph against what is wanted.
func refused(t *testing.T, g api.Graph, params []api.Param, want api.Errno, l ...string) {
	t.Helper()
	for _, text := range l {
		if _, no := run(t, g, text, params...); no != want {
			t.Errorf("%s: %v, not %v", text, no, want)
		}
	}
}

// badValues are values that layer 1 refuses.
func badValues() map[string]api.Value {
	return map[string]api.Value{
		"no kind":           {Kind: 8},
		"a kind below 0":    {Kind: -1},
		"a number's text":   {Kind: api.ValueInt, Text: "x"},
		"a node below 0":    node(-1),
		"a rel below 0":     rel(-1 << 63),
		"keys that fall":    {Kind: api.ValueMap, Keys: []string{"b", "a"}, List: make([]api.Value, 2)},
		"nothing with more": {Int: 1},
		"no UTF-8":          value.String("\xff"),
		"within a list":     value.List(value.String("\xff")),
		"too deep":          nested(api.MaxDepth, value.Null()),
		"too long a text":   value.String(strings.Repeat("t", api.MaxText+1)),
		"too long a list":   {Kind: api.ValueList, List: make([]api.Value, api.MaxRows+1)},
	}
}

// badGraphs are graphs that layer 5 refuses.
func badGraphs() map[string]api.Graph {
	bad := map[string]api.Graph{
		"a number that is not below the next": {Nodes: []api.Node{{}}},
		"a node below 0":                      {Nodes: []api.Node{{ID: -1}}, NextNode: 1},
		"a next number below 0":               {NextRel: -1},
		"a next number that is too great":     {NextNode: 1<<62 + 1},
		"no type":                             {Nodes: []api.Node{{}}, Rels: []api.Rel{{}}, NextNode: 1, NextRel: 1},
		"no such node":                        {Nodes: []api.Node{{}}, Rels: []api.Rel{{Type: "T", To: 1}}, NextNode: 1, NextRel: 1},
		"labels that fall":                    {Nodes: []api.Node{{Labels: []string{"B", "A"}}}, NextNode: 1},
		"a label that is no name":             {Nodes: []api.Node{{Labels: []string{""}}}, NextNode: 1},
		"a key twice":                         {Nodes: []api.Node{{Props: []api.Prop{prop("k", value.Int(1)), prop("k", value.Int(1))}}}, NextNode: 1},
		"too many nodes":                      plain(api.MaxElements + 1),
	}
	for name, v := range badValues() {
		bad["a property: "+name] = api.Graph{Nodes: []api.Node{{Props: []api.Prop{prop("k", v)}}}, NextNode: 1}
	}
	bad["a property: nothing"] = api.Graph{Nodes: []api.Node{{Props: []api.Prop{prop("k", value.Null())}}}, NextNode: 1}
	return bad
}
