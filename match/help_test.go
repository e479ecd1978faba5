package match_test

import (
	"strings"
	"testing"

	"lattice/api"
	"lattice/graph"
	"lattice/match"
	"lattice/syntax"
	"lattice/value"
)

// clause reads one clause; of a text that none of MATCH begins, MATCH stands ahead.
func clause(t *testing.T, text string) api.Clause {
	t.Helper()
	if strings.HasPrefix(text, "(") {
		text = "MATCH " + text
	}
	q, at, no := syntax.Parse(text)
	if no != api.OK {
		t.Fatalf("%s: %v at %d", text, no, at)
	}
	return q.Clauses[0]
}

func prop(key string, v api.Value) api.Prop { return api.Prop{Key: key, Value: v} }

// world is a graph: nodes 0 :A {k: 1}, 1 :A:B {k: 2, t: 'x'}, 2 :B {k: 1}, 3 of nothing; relationships 0 from 0 to 1 :T {w: 1}, 1 from 1 to 2 :T {w: 2}, 2 from 2 to 2 :U, 3 from 2 to 0 :V, 4 from 0 to 1 :U {w: 1}. Node 4 and relationship 5 are there no more.
func world(t *testing.T) *graph.Graph {
	t.Helper()
	g, no := graph.Make(api.Graph{
		Nodes: []api.Node{
			{ID: 0, Labels: []string{"A"}, Props: []api.Prop{prop("k", value.Int(1))}},
			{ID: 1, Labels: []string{"A", "B"}, Props: []api.Prop{prop("k", value.Int(2)), prop("t", value.String("x"))}},
			{ID: 2, Labels: []string{"B"}, Props: []api.Prop{prop("k", value.Int(1))}},
			{ID: 3},
			{ID: 4, Labels: []string{"A"}},
		},
		Rels: []api.Rel{
			{ID: 0, From: 0, To: 1, Type: "T", Props: []api.Prop{prop("w", value.Int(1))}},
			{ID: 1, From: 1, To: 2, Type: "T", Props: []api.Prop{prop("w", value.Int(2))}},
			{ID: 2, From: 2, To: 2, Type: "U"},
			{ID: 3, From: 2, To: 0, Type: "V"},
			{ID: 4, From: 0, To: 1, Type: "U", Props: []api.Prop{prop("w", value.Int(1))}},
			{ID: 5, From: 0, To: 4, Type: "T"},
		},
		NextNode: 5, NextRel: 6,
	})
	if no != api.OK || g.Drop(true, 5) != api.OK || g.Drop(false, 4) != api.OK {
		t.Fatal(no)
	}
	return g
}

// plain is a graph of so many nodes, each with its number as k, with relationships from one to another.
func plain(t *testing.T, nodes int, rels ...[2]int) *graph.Graph {
	t.Helper()
	a := api.Graph{NextNode: int64(nodes), NextRel: int64(len(rels))}
	for i := range nodes {
		a.Nodes = append(a.Nodes, api.Node{ID: int64(i), Props: []api.Prop{prop("k", value.Int(int64(i)))}})
	}
	for i, r := range rels {
		a.Rels = append(a.Rels, api.Rel{ID: int64(i), From: int64(r[0]), To: int64(r[1]), Type: "T"})
	}
	g, no := graph.Make(a)
	if no != api.OK {
		t.Fatal(no)
	}
	return g
}

func node(n int64) api.Value { return api.Value{Kind: api.ValueNode, Int: n} }

func rel(n int64) api.Value { return api.Value{Kind: api.ValueRel, Int: n} }

// place has columns, by turns a name and a value.
func place(l ...any) api.Place {
	var p api.Place
	for i := 0; i < len(l); i += 2 {
		p.Columns = append(p.Columns, l[i].(string))
		p.Row = append(p.Row, l[i+1].(api.Value))
	}
	return p
}

// with puts parameters to a place, by turns a name and a value.
func with(p api.Place, l ...any) api.Place {
	for i := 0; i < len(l); i += 2 {
		p.Params = append(p.Params, api.Param{Name: l[i].(string), Value: l[i+1].(api.Value)})
	}
	return p
}

// told is what is found as a text: rows with ; behind each, nodes n0, relationships r0, other values as layer 1 tells them; or ! and what the error is called.
func told(rows [][]api.Value, no api.Errno) string {
	if no != api.OK {
		if len(rows) > 0 {
			return "rows beside an error"
		}
		return "!" + errorName(no)
	}
	var b strings.Builder
	for _, row := range rows {
		for i, v := range row {
			if i > 0 {
				b.WriteString(" ")
			}
			s, no := value.Text(v)
			if no != api.OK {
				s = "?"
			}
			b.WriteString(strings.Trim(s, "<>"))
		}
		b.WriteString(";")
	}
	return b.String()
}

func errorName(no api.Errno) string {
	switch no {
	case api.ErrNil:
		return "nil"
	case api.ErrArg:
		return "arg"
	case api.ErrType:
		return "type"
	case api.ErrGreat:
		return "great"
	case api.ErrWide:
		return "wide"
	case api.ErrZero:
		return "zero"
	case api.ErrRows:
		return "rows"
	}
	return no.Error()
}

// finds is a clause, and what it finds, as told does.
type finds struct{ text, want string }

// hold holds what clauses find in a graph, at a place, against what is wanted.
func hold(t *testing.T, g *graph.Graph, p api.Place, rows ...finds) {
	t.Helper()
	for _, x := range rows {
		if got := told(match.Find(g, p, clause(t, x.text))); got != x.want {
			t.Errorf("%s: %s, not %s", x.text, got, x.want)
		}
	}
}

// badValues are values that layer 1 refuses.
func badValues() map[string]api.Value {
	deep := value.Null()
	for range api.MaxDepth {
		deep = value.List(deep)
	}
	return map[string]api.Value{
		"no kind":           {Kind: 8},
		"a kind below 0":    {Kind: -1},
		"a number's text":   {Kind: api.ValueInt, Text: "x"},
		"a node's text":     {Kind: api.ValueNode, Text: "x"},
		"a rel below 0":     rel(-1 << 63),
		"a key too much":    {Kind: api.ValueMap, Keys: []string{"k"}},
		"keys that fall":    {Kind: api.ValueMap, Keys: []string{"b", "a"}, List: make([]api.Value, 2)},
		"a key of no UTF-8": {Kind: api.ValueMap, Keys: []string{"\xff"}, List: make([]api.Value, 1)},
		"too deep":          deep,
		"a truth of a text": {Kind: api.ValueBool, Text: "a"},
		"no UTF-8":          value.String("\xff"),
		"a node below 0":    node(-1),
		"nothing with more": {Int: 1},
		"too long a text":   value.String(strings.Repeat("t", api.MaxText+1)),
		"too long a list":   {Kind: api.ValueList, List: make([]api.Value, api.MaxRows+1)},
		"within a list":     value.List(value.String("\xff")),
	}
}

// toldVars is variables as a text, with their kinds; or ! and what the error is called.
func toldVars(l []api.Var, no api.Errno) string {
	if no != api.OK {
		if len(l) > 0 {
			return "variables beside an error"
		}
		return "!" + errorName(no)
	}
	var b []string
	for _, v := range l {
		b = append(b, v.Name+":"+string(rune('0'+v.Kind)))
	}
	return strings.Join(b, " ")
}
