package query_test

import (
	"reflect"
	"strings"
	"testing"

	"lattice/api"
	"lattice/graph"
	"lattice/query"
	"lattice/value"
)

// What is refused: each error, their order, in all calls alike.

// refusedQuery holds the error of a query that need not be that of a text.
func refusedQuery(t *testing.T, name string, g api.Graph, q api.Query, params []api.Param, want api.Errno) {
	t.Helper()
	if _, no := runQuery(t, g, q, params...); no != want {
		t.Errorf("%s: %v, not %v", name, no, want)
	}
}

// refusedText holds the error of a text that need not be that of a query.
func refusedText(t *testing.T, name string, g api.Graph, text string, params []api.Param, want api.Errno) {
	t.Helper()
	held := graph.Copy(g)
	a, no := query.Text(g, text, params...)
	if no != want || !reflect.DeepEqual(a, api.Answer{}) || !reflect.DeepEqual(g, held) {
		t.Errorf("%s: %.40s: %v, not %v; %v", name, text, no, want, a.Table)
	}
}

// wrongTexts are texts of no query, and layer 4's errors of them.
func wrongTexts() map[string]api.Errno {
	return map[string]api.Errno{
		"":                                   api.ErrSyntax,
		"RETURN":                             api.ErrSyntax,
		"MATCH":                              api.ErrSyntax,
		"RETURN $":                           api.ErrSyntax,
		"RETURN 1,":                          api.ErrSyntax,
		"RETURN 9223372036854775808":         api.ErrSyntax,
		"RETURN 1 #":                         api.ErrWord,
		"RETURN '\xff'":                      api.ErrWord,
		strings.Repeat(" ", api.MaxText+1):   api.ErrLong,
		strings.Repeat("RETURN 1 ", 101):     api.ErrTooMany,
		"RETURN " + strings.Repeat("(", 201): api.ErrDeep,
		"RETURN " + strings.Repeat("[", 64) + strings.Repeat("]", 64) + ".a": api.ErrDeep,
	}
}

func TestGraphsThatMayNotBe(t *testing.T) {
	twice := []api.Param{param("m", value.Int(1)), param("m", value.Int(1))}
	for name, g := range badGraphs() {
		if graph.Check(g) != api.ErrArg {
			t.Fatal(name)
		}
		for _, text := range []string{"RETURN 1", "CREATE ()", "RETURN x", "RETURN $m", "RETURN 1 / 0"} {
			refusedQuery(t, name, g, read(t, text), nil, api.ErrArg)
			refusedText(t, name, g, text, nil, api.ErrArg)
		}
		refusedQuery(t, name, g, read(t, "RETURN x"), twice, api.ErrArg)
		refusedQuery(t, name, g, api.Query{}, nil, api.ErrArg)
		// The graph is asked ahead of the text too.
		for _, text := range []string{"", "RETURN", "RETURN 1 #", strings.Repeat(" ", api.MaxText+1)} {
			refusedText(t, name, g, text, nil, api.ErrArg)
			refusedText(t, name, g, text, twice, api.ErrArg)
		}
	}
}

func TestTextsOfNoQuery(t *testing.T) {
	for text, want := range wrongTexts() {
		for _, params := range [][]api.Param{nil, {param("", value.Int(1))}, {param("m", value.String("\xff"))}, {param("m", value.Null()), param("m", value.Null())}} {
			refusedText(t, "a text", world(), text, params, want)
			refusedText(t, "a text", empty(), text, params, want)
		}
	}
}

// wrongParams are parameters that may not be.
func wrongParams() map[string][]api.Param {
	one := value.Int(1)
	wrong := map[string][]api.Param{
		"two of one name":           {param("m", one), param("m", one)},
		"two of one name, unlike":   {param("m", one), param("m", value.Null())},
		"two of one name, apart":    {param("z", one), param("m", one), param("y", one), param("z", one)},
		"no name":                   {param("", one)},
		"no name, behind others":    {param("m", one), param("", one)},
		"too long a name":           {param(strings.Repeat("m", api.MaxName+1), one)},
		"a name with a 0":           {param("m\x00", one)},
		"a name that is no UTF-8":   {param("\xff", one)},
		"a name that ends too soon": {param("\xc3", one)},
	}
	for name, v := range badValues() {
		wrong["a value: "+name] = []api.Param{param("m", v)}
		wrong["a value behind others: "+name] = []api.Param{param("m", one), param("z", v)}
	}
	return wrong
}

// Parameters are asked whether the query names them or not, and ahead of what the query means.
func TestParamsThatMayNotBe(t *testing.T) {
	for name, params := range wrongParams() {
		for _, text := range []string{"RETURN 1", "RETURN $m", "RETURN $z", "RETURN $q", "RETURN x", "CREATE ()", "RETURN 1 / 0", "MATCH (a) DELETE a"} {
			for _, g := range []api.Graph{empty(), world()} {
				refusedQuery(t, name, g, read(t, text), params, api.ErrArg)
				refusedText(t, name, g, text, params, api.ErrArg)
			}
		}
	}
	// What is at the bound goes.
	for _, p := range []api.Param{
		param(strings.Repeat("m", api.MaxName), value.Int(1)), param("match", value.Null()), param(" ", value.Int(1)), param("`", value.Int(1)), param("\n$", value.Int(1)), param("é", value.Int(1)),
		param("m", nested(api.MaxDepth-1, value.Null())), param("m", value.String(strings.Repeat("t", api.MaxText))), param("m", api.Value{Kind: api.ValueList, List: make([]api.Value, api.MaxRows)}),
		param("m", node(1<<62)), param("m", rel(0)),
	} {
		for _, g := range []api.Graph{empty(), world()} {
			a, no := run(t, g, "RETURN 1 AS x", p)
			if no != api.OK || told(a.Table) != "x: 1;" {
				t.Errorf("%.20q: %v", p.Name, no)
			}
		}
	}
}

func TestQueriesThatLayer4Refuses(t *testing.T) {
	one := read(t, "RETURN 1")
	many := api.Query{}
	for range api.MaxClauses + 1 {
		many.Clauses = append(many.Clauses, read(t, "CREATE ()").Clauses...)
	}
	deep := api.Expr{}
	for range api.MaxDepth {
		deep = api.Expr{Kind: api.ExprNot, Kids: []api.Expr{deep}}
	}
	of := func(e api.Expr) api.Query {
		return api.Query{Clauses: []api.Clause{{Kind: api.ClauseReturn, Items: []api.Item{{Expr: e}}}}}
	}
	wrong := map[string]api.Query{
		"no clause":             {},
		"too many clauses":      many,
		"no kind of clause":     {Clauses: []api.Clause{{Kind: 8}}},
		"a kind below 0":        {Clauses: []api.Clause{{Kind: -1}}},
		"no paths":              {Clauses: []api.Clause{{Kind: api.ClauseCreate}}},
		"no items":              {Clauses: []api.Clause{{Kind: api.ClauseReturn}}},
		"more than a kind uses": {Clauses: []api.Clause{{Kind: api.ClauseReturn, Items: one.Clauses[0].Items, As: "x"}}},
		"a Where of RETURN":     {Clauses: []api.Clause{{Kind: api.ClauseReturn, Items: one.Clauses[0].Items, HasWhere: true}}},
		"a Skip that is none":   {Clauses: []api.Clause{{Kind: api.ClauseReturn, Items: one.Clauses[0].Items, Skip: readExpr(t, "1")}}},
		"too deep":              of(deep),
		"no kind of expression": of(api.Expr{Kind: 16}),
		"a list as a literal":   of(api.Expr{Value: value.List()}),
		"a literal's text":      of(api.Expr{Value: value.String("\xff")}),
		"no name of a param":    of(api.Expr{Kind: api.ExprParam}),
		"no sign":               of(api.Expr{Kind: api.ExprBin, Name: "?", Kids: make([]api.Expr, 2)}),
		"one behind a good one": {Clauses: append(read(t, "CREATE ()").Clauses, api.Clause{Kind: 9})},
	}
	for name, q := range wrong {
		for _, g := range []api.Graph{empty(), world()} {
			refusedQuery(t, name, g, q, nil, api.ErrArg)
			refusedQuery(t, name, g, q, []api.Param{param("m", value.Int(1))}, api.ErrArg)
		}
	}
}

// meaningless are queries that mean nothing, by layer 6's error; each names the parameter m, and would go wrong.
func meaningless() map[api.Errno][]string {
	return map[api.Errno][]string{
		api.ErrVar:       {"RETURN $m / 0, x", "MATCH (a) SET a.k = $m / 0 SET b.k = 1", "CREATE ({k: $m / 0}) DELETE a", "UNWIND $m / 0 AS x RETURN 1 SKIP x"},
		api.ErrFunction:  {"RETURN $m / 0, f(1)", "CREATE ({k: $m / 0}) RETURN abs()", "RETURN $m / 0, id(1, 2)", "RETURN $m / 0, abs(DISTINCT 1)"},
		api.ErrAggregate: {"RETURN $m / 0, 1 + count(*)", "CREATE ({k: $m / 0}) RETURN count(count(*))", "UNWIND sum($m / 0) AS x RETURN x"},
		api.ErrKind:      {"WITH $m / 0 AS a MATCH (a) RETURN a", "CREATE ({k: $m / 0}) WITH 1 AS x DELETE x", "UNWIND [$m / 0] AS x SET x.k = 1"},
		api.ErrAgain:     {"UNWIND $m / 0 AS x UNWIND 1 AS x RETURN x", "RETURN $m / 0 AS x, 1 AS x", "CREATE ({k: $m / 0}) WITH 1 AS x MATCH ()-[r]->()-[r]->() RETURN r"},
		api.ErrOrder:     {"RETURN $m / 0 RETURN 1", "CREATE ({k: $m / 0}) WITH 1 AS x", "CREATE ({k: $m / 0}) WITH 1 AS x MATCH (a)", "UNWIND $m / 0 AS x"},
		api.ErrName:      {"WITH $m / 0 RETURN 1", "CREATE (a {k: $m / 0}) WITH a.k RETURN 1"},
		api.ErrPattern:   {"CREATE ({k: $m / 0})-[:T]-()", "CREATE ({k: $m / 0})-->()", "CREATE (a {k: $m / 0}) CREATE (a:B)", "CREATE ({k: $m / 0})-[:T|U]->()"},
	}
}

func TestQueriesThatMeanNothing(t *testing.T) {
	for want, l := range meaningless() {
		for _, g := range []api.Graph{empty(), world()} {
			refused(t, g, nil, want, l...)
			refused(t, g, []api.Param{param("m", value.Int(1))}, want, l...)
			refused(t, g, []api.Param{param("m", value.Int(1)), param("", value.Int(1))}, api.ErrArg, l...)
		}
	}
}

// A parameter that is not there counts, whether it would be asked or not, ahead of what any clause does.
func TestParamsThatAreNotThere(t *testing.T) {
	l := []string{
		"RETURN $m",
		"RETURN 1 / 0, $m",
		"RETURN true OR $m",
		"RETURN coalesce(1, $m)",
		"RETURN $n, $m",
		"MATCH (a:Nowhere) WHERE $m RETURN a",
		"UNWIND [] AS x RETURN $m",
		"CREATE () WITH 1 AS x RETURN $m",
		"MATCH (a) DETACH DELETE a RETURN 1 LIMIT $m",
		"UNWIND 1 AS x WITH 1 / 0 AS y RETURN $m",
		"MATCH (a)-[r]->() DELETE a SET r.k = $m",
	}
	for _, g := range []api.Graph{empty(), world()} {
		refused(t, g, nil, api.ErrParam, l...)
		refused(t, g, []api.Param{param("n", value.Int(1)), param("M", value.Int(1)), param("mm", value.Int(1))}, api.ErrParam, l...)
		for _, text := range l {
			if _, no := run(t, g, text, param("n", value.Null()), param("m", value.Int(1))); early(no) {
				t.Errorf("%s: %v", text, no)
			}
		}
	}
}

// What the first clause that goes wrong tells is told, whatever those behind it would; and the graph that was handed in is as it was, though clauses ahead of it wrote.
func TestClausesThatGoWrong(t *testing.T) {
	refused(t, world(), nil, api.ErrWrong,
		"RETURN 1 / 0",
		"RETURN 1 LIMIT -1",
		"UNWIND 1 AS x RETURN x",
		"MATCH (a) WHERE 1 / (a.k - 1) = 1 RETURN a",
		"CREATE (a:New) SET a.k = 1 WITH a RETURN 1 / 0",
		"MATCH (a) DETACH DELETE a RETURN 1 + 'a'",
		"MATCH (a) SET a.k = 7 REMOVE a:A WITH a WHERE a.k RETURN a",
		"MATCH (a) SET a.k = 7, a.z = [[1]]",
		"CREATE (a {k: 1}) CREATE (b {k: {}})",
		"UNWIND [1, 'a'] AS x CREATE ({k: x}) WITH sum(x) AS y RETURN y",
		"CREATE () WITH 1 / 0 AS x MATCH (a) DELETE a",
		"MATCH (a) SET a.k = range(1, 2, 0) DELETE a")
	refused(t, world(), nil, api.ErrAttached,
		"MATCH (a) DELETE a",
		"CREATE (a)-[:T]->() DELETE a",
		"CREATE (b) WITH b MATCH (a:A) SET a.k = 9, b.k = 9 DELETE a, b",
		"MATCH (a) DELETE a RETURN 1 / 0",
		"MATCH (a)-[r:T]->(b) DELETE r, a RETURN a")
	full := plain(api.MaxElements)
	refused(t, full, nil, api.ErrMany,
		"CREATE ()",
		"MATCH (a) WHERE id(a) = 0 CREATE (a)-[:T]->(a)",
		"MATCH (a) WHERE id(a) = 0 DELETE a CREATE (b) CREATE (c)",
		"CREATE () RETURN 1 / 0")
	refused(t, full, nil, api.ErrWrong, "WITH 1 / 0 AS x CREATE ()", "CREATE ({k: 1 / 0})")
	refused(t, plain(api.MaxElements-2), nil, api.ErrAttached, "CREATE (a)-[:T]->(a) DELETE a CREATE (), ()")
	a, no := query.Text(full, "MATCH (a) WHERE id(a) < 2 DELETE a WITH count(*) AS n CREATE (b {k: n})")
	if no != api.OK || len(a.Graph.Nodes) != api.MaxElements-1 || a.Graph.NextNode != api.MaxElements+1 {
		t.Errorf("%v, %d nodes", no, len(a.Graph.Nodes))
	}
}

// asking is a query with a rank of what is wrong with it; 5: nothing.
type asking struct {
	rank int
	no   api.Errno
	text string
}

// askings have two kinds of things wrong, as far as may be: what may not stand in a text, what means nothing, a parameter m, what goes wrong.
func askings() []asking {
	return []asking{
		{1, api.ErrSyntax, "RETURN $m / 0, x,"},
		{1, api.ErrWord, "RETURN $m / 0, x #"},
		{3, api.ErrVar, "RETURN $m / 0, x"},
		{3, api.ErrVar, "CREATE ({k: $m / 0}) RETURN x"},
		{3, api.ErrOrder, "CREATE ({k: 1 / 0}) WITH 1 AS x"},
		{4, api.ErrParam, "RETURN $m / 0"},
		{4, api.ErrParam, "CREATE () WITH 1 / 0 AS x RETURN x + $m"},
		{5, api.ErrWrong, "CREATE () WITH 1 / 0 AS x RETURN x"},
		{5, api.ErrAttached, "CREATE (a)-[:T]->(a) DELETE a RETURN 1 / 0"},
		{5, api.OK, "CREATE (a) RETURN a"},
	}
}

// Of errors that all apply, the first one in the chapter's order is told: the graph, the text, the parameters, what means nothing, a parameter that is not there, what goes wrong.
func TestOrderOfErrors(t *testing.T) {
	good, bad := world(), badGraphs()["no type"]
	lists := []struct {
		may, has bool
		params   []api.Param
	}{
		{true, false, nil},
		{true, true, []api.Param{param("m", value.Int(1))}},
		{true, false, []api.Param{param("n", value.Int(1))}},
		{false, false, []api.Param{param("", value.Int(1))}},
		{false, true, []api.Param{param("m", value.Int(1)), param("m", value.Int(1))}},
		{false, true, []api.Param{param("m", value.String("\xff"))}},
	}
	seen := map[api.Errno]int{}
	for _, x := range askings() {
		for _, l := range lists {
			for _, g := range []api.Graph{good, bad} {
				want, rank := x.no, x.rank
				if rank == 4 && l.has {
					want, rank = api.ErrWrong, 5
				}
				if !l.may && rank > 1 {
					want = api.ErrArg
				}
				if graph.Check(g) != api.OK {
					want = api.ErrArg
				}
				seen[want]++
				if x.rank == 1 {
					refusedText(t, "order", g, x.text, l.params, want)
				} else if _, no := run(t, g, x.text, l.params...); no != want {
					t.Errorf("%s, %v: %v, not %v", x.text, l, no, want)
				}
			}
		}
	}
	if len(seen) != 9 {
		t.Error(seen)
	}
}
