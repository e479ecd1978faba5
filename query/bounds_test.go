package query_test

import (
	"strconv"
	"strings"
	"testing"

	"lattice/api"
	"lattice/query"
	"lattice/syntax"
	"lattice/value"
)

// The limits, at the bound and one past it.

func TestMaxClauses(t *testing.T) {
	most := strings.Repeat("CREATE () ", api.MaxClauses)
	a, no := run(t, empty(), most)
	if no != api.OK || len(a.Graph.Nodes) != api.MaxClauses {
		t.Errorf("%v, %d nodes", no, len(a.Graph.Nodes))
	}
	refusedText(t, "one clause too many", empty(), most+"RETURN 1", nil, api.ErrTooMany)
	hold(t, empty(), nil, means{"WITH 0 AS x " + strings.Repeat("WITH x + 1 AS x ", api.MaxClauses-2) + "RETURN x", "x: " + strconv.Itoa(api.MaxClauses-2) + ";", "0 0"})
}

func TestMaxRows(t *testing.T) {
	g := world()
	a, no := run(t, g, "UNWIND range(1, 65536) AS x RETURN x")
	if no != api.OK || len(a.Table.Rows) != api.MaxRows || a.Table.Rows[api.MaxRows-1][0].Int != api.MaxRows {
		t.Errorf("%v, %d rows", no, len(a.Table.Rows))
	}
	a, no = run(t, g, "UNWIND range(1, 256) AS x UNWIND range(1, 256) AS y WITH x, y WHERE x = y RETURN count(*) AS n")
	if no != api.OK || told(a.Table) != "n: 256;" {
		t.Errorf("%v, %s", no, told(a.Table))
	}
	refused(t, g, nil, api.ErrWrong,
		"UNWIND range(1, 65537) AS x RETURN x",
		"UNWIND range(1, 256) AS x UNWIND range(1, 257) AS y WITH x, y WHERE x = y RETURN count(*) AS n",
		"UNWIND range(1, 32769) AS x MATCH (a:A) RETURN count(*) AS n",
		"CREATE (c) WITH c UNWIND range(1, 65537) AS x SET c.k = x")
}

func TestMaxElements(t *testing.T) {
	g := plain(api.MaxElements - 3)
	for _, text := range []string{"CREATE (), (), ()", "CREATE (a)-[:T]->(b)", "CREATE (a) CREATE (a)-[:T]->(b)", "UNWIND [1, 2, 3] AS x CREATE ()", "CREATE (a), (b), (c) DELETE a, b, c CREATE (), (), ()"} {
		a, no := query.Text(g, text)
		if no != api.OK || len(a.Graph.Nodes)+len(a.Graph.Rels) != api.MaxElements {
			t.Errorf("%s: %v, %d elements", text, no, len(a.Graph.Nodes)+len(a.Graph.Rels))
		}
	}
	for _, text := range []string{"CREATE (), (), (), ()", "CREATE (a)-[:T]->(b) CREATE ()", "UNWIND [1, 2, 3, 4] AS x CREATE ()", "CREATE (), () CREATE (a), (b) DELETE a"} {
		if _, no := query.Text(g, text); no != api.ErrMany {
			t.Errorf("%s: %v", text, no)
		}
	}
	// A number above the greatest.
	if _, no := query.Text(api.Graph{NextNode: 1 << 62}, "CREATE ()"); no != api.ErrMany {
		t.Error(no)
	}
	if a, no := query.Text(api.Graph{NextNode: 1<<62 - 1}, "CREATE (a) RETURN a"); no != api.OK || told(a.Table) != "a: n4611686018427387903;" {
		t.Error(no)
	}
}

func TestMaxText(t *testing.T) {
	head, tail := "RETURN size('", "') AS n"
	most := head + strings.Repeat("t", api.MaxText-len(head)-len(tail)) + tail
	a, no := query.Text(empty(), most)
	if no != api.OK || a.Table.Rows[0][0].Int != int64(api.MaxText-len(head)-len(tail)) {
		t.Error(no)
	}
	refusedText(t, "a text that is too long", empty(), most+" ", nil, api.ErrLong)
	refusedText(t, "a text that is too long", badGraphs()["no type"], most+" ", nil, api.ErrArg)
	// A query that Print can't tell, as its text would be too long, may be run all the same.
	long := value.String(strings.Repeat("t", api.MaxText))
	q := api.Query{Clauses: []api.Clause{{Kind: api.ClauseReturn, Items: []api.Item{{Expr: api.Expr{Value: long}, As: "x"}}}}}
	if _, no := syntax.Print(q); no != api.ErrLong {
		t.Fatal(no)
	}
	if a, no := query.Run(empty(), q); no != api.OK || !value.Same(a.Table.Rows[0][0], long) {
		t.Error(no)
	}
	// Values that become too great go wrong.
	p := param("p", long)
	for _, text := range []string{"RETURN $p + 'a' AS x", "RETURN [$p, 'a'] AS x", "UNWIND [1, 2] AS i WITH collect($p) AS l RETURN size(l)", "CREATE (a) SET a.k = $p SET a.k = a.k + 'a'"} {
		if _, no := query.Text(empty(), text, p); no != api.ErrWrong {
			t.Errorf("%s: %v", text, no)
		}
	}
	if a, no := query.Text(empty(), "CREATE (a) SET a.k = $p RETURN a.k", p); no != api.OK || !value.Same(a.Graph.Nodes[0].Props[0].Value, long) {
		t.Error(no)
	}
}

func TestMaxDepth(t *testing.T) {
	p := param("p", nested(api.MaxDepth-1, value.Null()))
	if a, no := run(t, empty(), "WITH $p AS x RETURN x, x[0] AS y", p); no != api.OK || !value.Same(a.Table.Rows[0][0], p.Value) {
		t.Error(no)
	}
	refused(t, empty(), []api.Param{p}, api.ErrWrong, "RETURN [$p] AS x", "RETURN collect($p) AS x", "WITH {a: $p} AS x RETURN 1")
}

// Many parameters, which a query names or not.
func TestManyParameters(t *testing.T) {
	var params []api.Param
	var items []string
	for i := range 20000 {
		params = append(params, param("p"+strconv.Itoa(i), value.Int(int64(i))))
	}
	for i := range api.MaxItems {
		items = append(items, "$p"+strconv.Itoa(i*20))
	}
	a, no := run(t, empty(), "RETURN "+strings.Join(items, ", "), params...)
	if no != api.OK || len(a.Table.Columns) != api.MaxItems || a.Table.Rows[0][api.MaxItems-1].Int != 19980 {
		t.Error(no)
	}
	refused(t, empty(), append(params, param("p0", value.Int(1))), api.ErrArg, "RETURN $p0")
	refused(t, empty(), params[:19980], api.ErrParam, "RETURN "+strings.Join(items, ", "))
	if got := query.Params(read(t, "RETURN "+strings.Join(items, ", "))); len(got) != api.MaxItems {
		t.Error(len(got))
	}
}
