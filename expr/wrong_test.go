package expr_test

import (
	"testing"

	"lattice/api"
	"lattice/expr"
	"lattice/graph"
	"lattice/value"
)

// P7.1: what goes wrong, of two wrong things the one that is told first, and what is not asked.

// Kids go wrong from the left, ahead of what is done with them.
func TestFirstKidThatGoesWrong(t *testing.T) {
	for _, o := range []string{"OR", "XOR", "AND", "=", "<>", "<", "<=", ">", ">=", "IN", "STARTS WITH", "ENDS WITH", "CONTAINS", "+", "-", "*", "/", "%"} {
		worth(t, row{"nowhere " + o + " $nowhere", "!var"}, row{"$nowhere " + o + " nowhere", "!param"}, row{"nowhere " + o + " 1", "!var"}, row{"1 " + o + " nowhere", "!var"}, row{"'a' " + o + " (1 / 0)", "!zero"}, row{"[] " + o + " $nowhere", "!param"}, row{"null " + o + " nowhere", "!var"}, row{"n " + o + " (1 + true)", "!type"}, row{"r " + o + " count(*)", "!aggregate"})
	}
	worth(t,
		row{"[nowhere, $nowhere]", "!var"}, row{"[1, $nowhere, nowhere]", "!param"}, row{"{b: 1 / 0, a: nowhere}", "!zero"}, row{"{b: nowhere, a: 1 / 0}", "!var"},
		row{"nowhere[1 / 0]", "!var"}, row{"(1 / 0)[nowhere]", "!zero"}, row{"1[nowhere]", "!var"}, row{"null[1 / 0]", "!zero"}, row{"n[nowhere]", "!var"},
		row{"nowhere.k", "!var"}, row{"(1 / 0).k", "!zero"}, row{"$nowhere:A", "!param"}, row{"NOT nowhere", "!var"}, row{"-$nowhere", "!param"}, row{"-(9223372036854775807 + 1)", "!wide"}, row{"nowhere IS NULL", "!var"}, row{"1 / 0 IS NOT NULL", "!zero"},
		row{"range(nowhere, $nowhere, 0)", "!var"}, row{"range('a', $nowhere, 0)", "!param"}, row{"range(1, null, 1 / 0)", "!zero"}, row{"range(null, nowhere)", "!var"}, row{"abs(nowhere)", "!var"}, row{"labels(1 / 0)", "!zero"}, row{"id(abs('a') + nowhere)", "!type"},
		row{"(1 + true) + nowhere", "!type"}, row{"(1 / 0) + (1 + true)", "!zero"}, row{"(1 + true) + (1 / 0)", "!type"}, row{"9223372036854775807 + 1 + nowhere", "!wide"}, row{"nope() + count(*)", "!function"}, row{"count(*) + nope()", "!aggregate"},
	)
}

// The second one of AND, OR is asked unless the first one says all, also where that is no truth.
func TestAndOrAskTheSecondOne(t *testing.T) {
	for _, wrong := range []row{{"nowhere", "!var"}, {"$nowhere", "!param"}, {"1 / 0", "!zero"}, {"1", "!type"}, {"'a'", "!type"}, {"nope()", "!function"}, {"count(*)", "!aggregate"}, {"9223372036854775807 + 1", "!wide"}, {"[] + 1", "!type"}} {
		worth(t,
			row{"false AND " + wrong.text, "false"}, row{"z AND " + wrong.text, "false"}, row{"true OR " + wrong.text, "true"}, row{"i = 7 OR " + wrong.text, "true"},
			row{"true AND " + wrong.text, wrong.want}, row{"null AND " + wrong.text, wrong.want}, row{"false OR " + wrong.text, wrong.want}, row{"null OR " + wrong.text, wrong.want}, row{"true XOR " + wrong.text, wrong.want}, row{"false XOR " + wrong.text, wrong.want},
			row{wrong.text + " AND false", wrong.want}, row{wrong.text + " OR true", wrong.want},
			row{"1 AND " + wrong.text, wrong.want}, row{"'' OR " + wrong.text, wrong.want},
			row{"(false AND " + wrong.text + ") OR true", "true"}, row{"false AND false AND " + wrong.text, "false"}, row{"true AND false AND " + wrong.text, "false"}, row{"false OR true OR " + wrong.text, "true"},
		)
	}
}

func TestCaseAsksNoMoreThanItMust(t *testing.T) {
	for _, wrong := range []row{{"nowhere", "!var"}, {"$nowhere", "!param"}, {"1 / 0", "!zero"}, {"nope()", "!function"}, {"count(*)", "!aggregate"}} {
		worth(t,
			row{"CASE WHEN true THEN 1 ELSE " + wrong.text + " END", "1"}, row{"CASE WHEN false THEN " + wrong.text + " ELSE 2 END", "2"}, row{"CASE WHEN null THEN " + wrong.text + " END", "null"}, row{"CASE WHEN true THEN 1 WHEN " + wrong.text + " THEN 2 END", "1"}, row{"CASE WHEN true THEN 1 WHEN true THEN " + wrong.text + " END", "1"}, row{"CASE WHEN false THEN " + wrong.text + " WHEN true THEN 3 WHEN " + wrong.text + " THEN 4 ELSE " + wrong.text + " END", "3"},
			row{"CASE WHEN " + wrong.text + " THEN 1 ELSE 2 END", wrong.want}, row{"CASE WHEN true THEN " + wrong.text + " ELSE 2 END", wrong.want}, row{"CASE WHEN false THEN 1 ELSE " + wrong.text + " END", wrong.want}, row{"CASE WHEN false THEN 1 WHEN " + wrong.text + " THEN 2 ELSE 3 END", wrong.want},
			row{"CASE WHEN 1 THEN " + wrong.text + " END", "!type"}, row{"CASE WHEN 1 THEN 2 WHEN " + wrong.text + " THEN 3 ELSE " + wrong.text + " END", "!type"},
		)
	}
}

func TestCoalesceAsksNoMoreThanItMust(t *testing.T) {
	for _, wrong := range []row{{"nowhere", "!var"}, {"$nowhere", "!param"}, {"1 / 0", "!zero"}, {"1 + true", "!type"}, {"nope()", "!function"}, {"count(*)", "!aggregate"}} {
		worth(t,
			row{"coalesce(1, " + wrong.text + ")", "1"}, row{"coalesce(null, false, " + wrong.text + ", " + wrong.text + ")", "false"},
			row{"coalesce(" + wrong.text + ", 1)", wrong.want}, row{"coalesce(null, " + wrong.text + ", 1)", wrong.want}, row{"coalesce(x, x, " + wrong.text + ")", wrong.want},
		)
	}
}

func TestAggregatesAndOtherFunctions(t *testing.T) {
	worth(t, row{"count(*)", "!aggregate"}, row{"[1, count(*)]", "!aggregate"}, row{"abs(count(*))", "!aggregate"}, row{"1 + sum(1)", "!aggregate"}, row{"NOT collect(n)", "!aggregate"})
	for _, name := range []string{"count", "sum", "min", "max", "collect"} {
		worth(t,
			row{name + "()", "!aggregate"}, row{name + "(1)", "!aggregate"}, row{name + "(null)", "!aggregate"}, row{name + "(DISTINCT i)", "!aggregate"}, row{name + "(1, 2)", "!aggregate"}, row{name + "(DISTINCT 1, 2, 3)", "!aggregate"},
			row{name + "(nowhere)", "!var"}, row{name + "(1, 1 / 0)", "!zero"}, row{name + "(nope())", "!function"},
		)
	}
	for _, name := range []string{"nope", "COUNT", "Id", "ID", "tostring", "Coalesce", "`a b`", "`range `"} {
		worth(t, row{name + "()", "!function"}, row{name + "(1)", "!function"}, row{name + "(null)", "!function"}, row{name + "(1, 2)", "!function"}, row{name + "(DISTINCT 1)", "!function"}, row{name + "(nowhere)", "!var"}, row{name + "(1, $nowhere)", "!param"}, row{name + "(count(*))", "!aggregate"})
	}
	for _, name := range []string{"id", "labels", "type", "size", "head", "last", "abs", "keys", "toString"} {
		worth(t, row{name + "()", "!function"}, row{name + "(1, 2)", "!function"}, row{name + "(null, null)", "!function"}, row{name + "(1, 2, 3)", "!function"}, row{name + "(DISTINCT null)", "!function"}, row{name + "(1, nowhere)", "!var"}, row{name + "(1 / 0, nowhere)", "!zero"})
	}
	worth(t,
		row{"range()", "!function"}, row{"range(1)", "!function"}, row{"range(null)", "!function"}, row{"range(1, 2, 3, 4)", "!function"}, row{"range(1, 2, 0, null)", "!function"}, row{"range(DISTINCT 1, 2)", "!function"}, row{"range(1, 2, 3, nowhere)", "!var"},
		row{"coalesce()", "!function"}, row{"coalesce(DISTINCT 1)", "!function"}, row{"coalesce(DISTINCT null, 1)", "!function"}, row{"coalesce(DISTINCT nowhere)", "!var"},
	)
}

// faces are the calls that are handed a graph and a place, each told as Eval is.
func faces() map[string]func(*graph.Graph, api.Place, api.Expr) string {
	return map[string]func(*graph.Graph, api.Place, api.Expr) string{
		"Eval":  func(g *graph.Graph, p api.Place, e api.Expr) string { return told(expr.Eval(g, p, e)) },
		"True":  func(g *graph.Graph, p api.Place, e api.Expr) string { return toldTruth(expr.True(g, p, e)) },
		"Props": func(g *graph.Graph, p api.Place, e api.Expr) string { return toldProps(expr.Props(g, p, true, e)) },
	}
}

func toldTruth(is bool, no api.Errno) string {
	if no != api.OK && !is {
		return told(value.Null(), no)
	}
	return told(value.Bool(is), no)
}

func toldProps(l []api.Prop, no api.Errno) string {
	if no != api.OK && l == nil {
		return told(value.Null(), no)
	}
	m := api.Value{Kind: api.ValueMap}
	for _, p := range l {
		m.Keys, m.List = append(m.Keys, p.Key), append(m.List, p.Value)
	}
	return told(m, no)
}

func TestNoGraph(t *testing.T) {
	for what, face := range faces() {
		for _, g := range []*graph.Graph{nil, {}} {
			for _, e := range []api.Expr{read(t, "{}"), read(t, "nowhere"), {Kind: -1}} {
				for _, p := range []api.Place{{}, place(), {Columns: []string{"a"}}} {
					if got := face(g, p, e); got != "!nil" {
						t.Errorf("%s: %s", what, got)
					}
				}
			}
		}
	}
}

func TestPlacesThatMayNotBe(t *testing.T) {
	g := world(t)
	ask := func(what string, p api.Place) {
		t.Helper()
		for face, asked := range faces() {
			for _, s := range []string{"1", "true", "{}", "nowhere", "false AND a", "1 / 0"} {
				if got := asked(g, p, read(t, s)); got != "!arg" {
					t.Errorf("%s of %s: %s: %s", face, s, what, got)
				}
			}
		}
	}
	one := []api.Value{value.Int(1)}
	ask("a value too few", api.Place{Columns: []string{"a"}})
	ask("a value too much", api.Place{Row: one})
	ask("two too few", api.Place{Columns: []string{"a", "b", "c"}, Row: one})
	ask("one too much", api.Place{Columns: []string{"a"}, Row: []api.Value{value.Int(1), value.Int(1)}})
	for what, v := range badValues() {
		ask(what, api.Place{Columns: []string{"a"}, Row: []api.Value{v}})
		ask(what+" behind others", api.Place{Columns: []string{"a", "b"}, Row: []api.Value{value.Int(1), v}})
		ask(what+" as a parameter", api.Place{Params: []api.Param{{Name: "a", Value: v}}})
		ask(what+" as the second one", api.Place{Params: []api.Param{{Name: "a"}, {Name: "a", Value: v}}})
		if got := told(expr.Const(read(t, "1"), api.Param{Name: "a"}, api.Param{Name: "b", Value: v})); got != "!arg" {
			t.Errorf("Const: %s: %s", what, got)
		}
	}
	// Names are not asked: none but those of an expression can be found.
	odd := api.Place{Columns: []string{"", "\xff", "a"}, Row: []api.Value{{}, {}, value.Int(1)}, Params: []api.Param{{Name: ""}, {Name: "\x00"}}}
	if got := told(expr.Eval(g, odd, read(t, "a"))); got != "1" {
		t.Error(got)
	}
}

func TestExpressionsThatLayer4Refuses(t *testing.T) {
	g, p := world(t), place()
	for what, e := range refused() {
		for _, x := range []api.Expr{e, joined("AND", literal(value.Bool(false)), e), list(e), call("coalesce", literal(value.Int(1)), e), joined("+", variable("nowhere"), e)} {
			for face, asked := range faces() {
				if got := asked(g, p, x); got != "!arg" {
					t.Errorf("%s: %s: %s", face, what, got)
				}
			}
			if got := told(expr.Const(x)); got != "!arg" {
				t.Errorf("Const: %s: %s", what, got)
			}
		}
	}
	if got := told(expr.Eval(g, p, nested(api.MaxDepth))); got != "true" {
		t.Error(got)
	}
}

// Of equal keys the last one would count, but layer 4 lets no map have a key twice.
func TestEqualKeys(t *testing.T) {
	e := api.Expr{Kind: api.ExprMap, Keys: []string{"b", "a", "b"}, Kids: []api.Expr{literal(value.Int(1)), literal(value.Int(2)), literal(value.Int(3))}}
	if got := told(expr.Const(e)); got != "!arg" {
		t.Error(got)
	}
	e.Keys[2] = "c"
	if got := told(expr.Const(e)); got != "{a: 2, b: 1, c: 3}" {
		t.Error(got)
	}
}

// Lists that are not there and empty ones mean the same, inside other things too.
func TestEmptyLists(t *testing.T) {
	g := world(t)
	blank := api.Value{Keys: []string{}, List: []api.Value{}}
	p := api.Place{Columns: []string{}, Row: []api.Value{}, Params: []api.Param{}}
	e := api.Expr{Kind: api.ExprLiteral, Value: blank, Keys: []string{}, Kids: []api.Expr{}}
	if got := told(expr.Eval(g, p, e)); got != "null" {
		t.Error(got)
	}
	if is, no := expr.True(g, api.Place{Columns: []string{}}, e); is || no != api.OK {
		t.Error(is, no)
	}
	if l, no := expr.Props(g, p, true, api.Expr{Kind: api.ExprMap, Keys: []string{}, Kids: []api.Expr{}}); len(l) != 0 || no != api.OK {
		t.Error(l, no)
	}
	p = api.Place{Columns: []string{"a"}, Row: []api.Value{{Kind: api.ValueList, List: []api.Value{}, Keys: []string{}}}}
	if got := told(expr.Eval(g, p, read(t, "[a, a + [], head(a), a[0], a = [], 1 IN a]"))); got != "[[], [], null, null, true, false]" {
		t.Error(got)
	}
}
