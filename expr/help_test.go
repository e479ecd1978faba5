package expr_test

import (
	"slices"
	"strings"
	"testing"

	"lattice/api"
	"lattice/expr"
	"lattice/graph"
	"lattice/syntax"
	"lattice/value"
)

func read(t *testing.T, text string) api.Expr {
	t.Helper()
	e, at, no := syntax.ParseExpr(text)
	if no != api.OK {
		t.Fatalf("%s: %v at %d", text, no, at)
	}
	return e
}

// told is an answer as a text: a value's, or ! and what the error is called.
func told(v api.Value, no api.Errno) string {
	if no != api.OK {
		if !value.Same(v, value.Null()) {
			return "a value beside an error"
		}
		return "!" + errorName(no)
	}
	return textOf(v)
}

func textOf(v api.Value) string {
	s, no := value.Text(v)
	if no != api.OK {
		return "a value that may not be"
	}
	return s
}

func errorName(no api.Errno) string {
	switch no {
	case api.ErrNil:
		return "nil"
	case api.ErrArg:
		return "arg"
	case api.ErrVar:
		return "var"
	case api.ErrParam:
		return "param"
	case api.ErrType:
		return "type"
	case api.ErrGreat:
		return "great"
	case api.ErrAggregate:
		return "aggregate"
	case api.ErrFunction:
		return "function"
	case api.ErrWide:
		return "wide"
	case api.ErrZero:
		return "zero"
	}
	return no.Error()
}

// world is a graph: node 0 :A:`B c` {`b c`: 'x', k: 3, l: [1, 2], no: false}, node 1 of nothing, node 2 :C; relationship 0 from 0 to 1 :T {k: 'w'}, 1 from 1 to 1 :U. Node 3 and relationship 2 are there no more.
func world(t *testing.T) *graph.Graph {
	t.Helper()
	g, no := graph.Make(api.Graph{
		Nodes: []api.Node{
			{ID: 0, Labels: []string{"A", "B c"}, Props: []api.Prop{{Key: "b c", Value: value.String("x")}, {Key: "k", Value: value.Int(3)}, {Key: "l", Value: value.List(value.Int(1), value.Int(2))}, {Key: "no", Value: value.Bool(false)}}},
			{ID: 1},
			{ID: 2, Labels: []string{"C"}},
			{ID: 3, Labels: []string{"A"}, Props: []api.Prop{{Key: "k", Value: value.Int(9)}}},
		},
		Rels: []api.Rel{
			{ID: 0, From: 0, To: 1, Type: "T", Props: []api.Prop{{Key: "k", Value: value.String("w")}}},
			{ID: 1, From: 1, To: 1, Type: "U"},
			{ID: 2, From: 2, To: 3, Type: "T", Props: []api.Prop{{Key: "k", Value: value.Int(8)}}},
		},
		NextNode: 4, NextRel: 3,
	})
	if no != api.OK || g.Drop(true, 2) != api.OK || g.Drop(false, 3) != api.OK {
		t.Fatal(no)
	}
	return g
}

func node(n int64) api.Value { return api.Value{Kind: api.ValueNode, Int: n} }

func rel(n int64) api.Value { return api.Value{Kind: api.ValueRel, Int: n} }

func mapOf(keys []string, l ...api.Value) api.Value {
	m, no := value.Map(keys, l)
	if no != api.OK {
		panic(no)
	}
	return m
}

// place has a column, and a parameter with the same name and value, of each kind; twice and `$ only` stand for themselves.
func place() api.Place {
	var p api.Place
	for _, x := range []struct {
		name string
		v    api.Value
	}{
		{"n", node(0)}, {"m", node(1)}, {"c", node(2)}, {"lost", node(3)}, {"never", node(1 << 40)},
		{"r", rel(0)}, {"u", rel(1)}, {"lostr", rel(2)}, {"neverr", rel(1 << 40)},
		{"x", value.Null()}, {"y", value.Bool(true)}, {"z", value.Bool(false)}, {"i", value.Int(7)}, {"t", value.String("abc")}, {"e", value.String("")},
		{"l", value.List(value.Int(1), value.Null(), value.String("a"))}, {"none", value.List()},
		{"o", mapOf([]string{"k", "b c", "nil"}, value.Int(5), value.List(value.Int(2)), value.Null())}, {"bare", mapOf(nil)},
		{"twice", value.Int(1)}, {"twice", value.Int(2)},
	} {
		p.Columns = append(p.Columns, x.name)
		p.Row = append(p.Row, x.v)
		p.Params = append(p.Params, api.Param{Name: x.name, Value: x.v})
	}
	p.Params = append(p.Params, api.Param{Name: "$ only", Value: value.Int(4)})
	return p
}

// row is an expression, and what it is worth, as told does.
type row struct{ text, want string }

// worth holds what expressions are worth in the world, at the place, against what is wanted.
func worth(t *testing.T, rows ...row) {
	t.Helper()
	g, p := world(t), place()
	for _, x := range rows {
		if got := told(expr.Eval(g, p, read(t, x.text))); got != x.want {
			t.Errorf("%s: %s, not %s", x.text, got, x.want)
		}
	}
}

func literal(v api.Value) api.Expr { return api.Expr{Kind: api.ExprLiteral, Value: v} }

func variable(name string) api.Expr { return api.Expr{Kind: api.ExprVar, Name: name} }

func param(name string) api.Expr { return api.Expr{Kind: api.ExprParam, Name: name} }

func joined(operator string, a, b api.Expr) api.Expr {
	return api.Expr{Kind: api.ExprBin, Name: operator, Kids: []api.Expr{a, b}}
}

func one(kind api.ExprKind, name string, e api.Expr) api.Expr {
	return api.Expr{Kind: kind, Name: name, Kids: []api.Expr{e}}
}

func call(name string, kids ...api.Expr) api.Expr {
	return api.Expr{Kind: api.ExprCall, Name: name, Kids: kids}
}

func list(kids ...api.Expr) api.Expr { return api.Expr{Kind: api.ExprList, Kids: kids} }

// nested is an expression so deep.
func nested(deep int) api.Expr {
	e := literal(value.Bool(false))
	for range deep - 1 {
		e = one(api.ExprNot, "", e)
	}
	return e
}

// refused are expressions that layer 4 refuses.
func refused() map[string]api.Expr {
	yes := literal(value.Bool(true))
	return map[string]api.Expr{
		"no kind below":         {Kind: -1},
		"no kind above":         {Kind: api.ExprCase + 1},
		"a literal with a name": {Value: value.Bool(true), Name: "x"},
		"a list as a literal":   literal(value.List()),
		"a node as a literal":   literal(node(0)),
		"no UTF-8":              literal(value.String("\xff")),
		"a variable of no name": variable(""),
		"a long name":           variable(strings.Repeat("x", api.MaxName+1)),
		"a property of none":    {Kind: api.ExprProp, Name: "k"},
		"not of none":           {Kind: api.ExprNot},
		"minus of two":          {Kind: api.ExprNeg, Kids: []api.Expr{yes, yes}},
		"AND of none":           {Kind: api.ExprBin, Name: "AND"},
		"AND of one":            {Kind: api.ExprBin, Name: "AND", Kids: []api.Expr{yes}},
		"no operator":           joined("and", yes, yes),
		"an index of one":       {Kind: api.ExprIndex, Kids: []api.Expr{yes}},
		"a key without a Kid":   {Kind: api.ExprMap, Keys: []string{"k"}},
		"a key twice":           {Kind: api.ExprMap, Keys: []string{"k", "k"}, Kids: []api.Expr{yes, yes}},
		"a CASE of none":        {Kind: api.ExprCase},
		"a CASE of one":         {Kind: api.ExprCase, Kids: []api.Expr{yes}},
		"a CASE of two":         {Kind: api.ExprCase, Kids: []api.Expr{yes, yes}},
		"a call of no name":     call(""),
		"a call Distinct":       {Kind: api.ExprCall, Name: "abs", Distinct: true},
		"a count of a Kid":      {Kind: api.ExprCount, Kids: []api.Expr{yes}},
		"too deep":              nested(api.MaxDepth + 1),
		"too many":              list(slices.Repeat([]api.Expr{yes}, api.MaxItems+1)...),
		"what is never asked":   joined("AND", literal(value.Bool(false)), api.Expr{Kind: -1}),
	}
}

// badValues are values that layer 1 refuses.
func badValues() map[string]api.Value {
	deep := value.List()
	for range api.MaxDepth {
		deep = value.List(deep)
	}
	return map[string]api.Value{
		"no kind":            {Kind: 8},
		"a truth of a text":  {Kind: api.ValueBool, Text: "a"},
		"no UTF-8":           value.String("\xff"),
		"a node below 0":     node(-1),
		"keys that fall":     {Kind: api.ValueMap, Keys: []string{"b", "a"}, List: make([]api.Value, 2)},
		"a key too much":     {Kind: api.ValueMap, Keys: []string{"a"}},
		"within a list":      value.List(value.List(value.String("\xff"))),
		"too long a text":    value.String(strings.Repeat("t", api.MaxText+1)),
		"too long a list":    {Kind: api.ValueList, List: make([]api.Value, api.MaxRows+1)},
		"too deep":           deep,
		"too long in itself": value.List(value.String(strings.Repeat("t", api.MaxText)), value.String("t")),
	}
}
