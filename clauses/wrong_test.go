package clauses_test

import (
	"strings"
	"testing"

	"lattice/api"
	"lattice/clauses"
	"lattice/graph"
	"lattice/value"
)

// P9.1: what may not be handed in.

// each has a clause of each kind that means something with the frame a, a node; r, a relationship; x.
func each() []string {
	return []string{
		"MATCH (a)-->(b) WHERE b.k = $p", "OPTIONAL MATCH (c:C)", "UNWIND [x] AS y", "WITH a, x WHERE x = 1", "RETURN a, count(*) ORDER BY a SKIP 1", "CREATE (a)-[:T {k: x}]->(b)",
		"SET a.k = x, r.w = 1, a:B", "REMOVE a.k, a:A", "DELETE r", "DETACH DELETE a",
	}
}

func good() api.Frame { return frame("n:a r:r x", row(node(0), rel(0), value.Int(1))) }

func TestNoGraph(t *testing.T) {
	refused, _ := graph.Make(api.Graph{NextNode: -1})
	for _, g := range []*graph.Graph{nil, {}, refused} {
		for _, s := range each() {
			c := read(t, s)[0]
			// It counts ahead of all else.
			for name, f := range map[string]api.Frame{"a frame": good(), "no rows": frame("n:a r:r x"), "no frame": frame("a a", ints(1)), "other variables": clauses.Start()} {
				if got := told(clauses.Do(g, f, c)); got != "!nil" {
					t.Errorf("%s, %s: %s", s, name, got)
				}
				if got := told(clauses.Do(g, f, c, param("p", api.Value{Kind: 99}))); got != "!nil" {
					t.Errorf("%s, %s: %s", s, name, got)
				}
			}
		}
		if got := told(clauses.Do(g, api.Frame{}, api.Clause{Kind: 99})); got != "!nil" {
			t.Error(got)
		}
	}
}

// A frame that may not be is ErrArg, whatever the clause asks of it.
func TestFramesThatMayNotBe(t *testing.T) {
	for name, f := range badFrames() {
		for _, s := range []string{"MATCH (z)", "MATCH (z:C)", "OPTIONAL MATCH (z:C) WHERE null", "UNWIND [] AS z", "UNWIND 1 / 0 AS z", "WITH 1 AS z", "RETURN 1 AS z", "RETURN count(*)", "WITH 1 AS z WHERE false", "RETURN 1 / 0", "RETURN 1 AS z LIMIT -1", "CREATE (z)", "CREATE (z {k: {}})"} {
			if got := told(do(t, pair(t), f, read(t, s)[0])); got != "!arg" {
				t.Errorf("%s, %s: %s", name, s, got)
			}
		}
		g := f
		g.Vars = append([]api.Var{{Name: "z", Kind: api.VarNode}}, f.Vars...)
		g.Rows = nil
		for _, l := range f.Rows {
			g.Rows = append(g.Rows, append(row(node(0)), l...))
		}
		for _, s := range []string{"SET z.k = 1", "SET z.k = {}", "SET z:B", "REMOVE z.k", "DELETE z", "DETACH DELETE z", "MATCH (z)-->(y)", "CREATE (z)-[:T]->(y)"} {
			if got := told(do(t, pair(t), g, read(t, s)[0])); got != "!arg" {
				t.Errorf("%s, %s: %s", name, s, got)
			}
		}
	}
}

// Clauses that layer 6 refuses with the frame's variables.
func TestRefusedByLayer6(t *testing.T) {
	for _, s := range []string{
		"MATCH (x)", "MATCH (r)", "MATCH ()-[a]->()", "MATCH ()-[r]->()", "MATCH (b {k: b.k})", "MATCH (b) WHERE nobody.k", "MATCH (b) WHERE count(*) = 1", "OPTIONAL MATCH (b {k: f(1)})", "MATCH (b)-[b]->()",
		"UNWIND [1] AS x", "UNWIND nobody AS y", "UNWIND collect(x) AS y", "UNWIND abs() AS y", "UNWIND [1] AS a",
		"WITH x + 1", "WITH x, a AS x", "WITH nobody", "WITH count(count(*)) AS n", "WITH x AS y ORDER BY x", "WITH x AS y WHERE a.k", "WITH x LIMIT x", "WITH x SKIP x", "WITH 1 + count(*) AS n", "WITH x ORDER BY count(*)", "WITH x WHERE max(x) = 1", "WITH abs(1, 2) AS y", "WITH count() AS n", "WITH sum(x, x) AS n",
		"RETURN x, x", "RETURN x AS y, a AS y", "RETURN nobody", "RETURN a.k ORDER BY a.k", "RETURN x LIMIT a", "RETURN abs(count(*))", "RETURN none(1)", "RETURN count(DISTINCT nobody)", "RETURN abs(DISTINCT x)",
		"CREATE (x)", "CREATE (r)", "CREATE (a:A)", "CREATE (a {k: 1})", "CREATE (a)-[:T]-(b)", "CREATE (a)-[]->(b)", "CREATE (a)-[:T|U]->(b)", "CREATE (a)-[r:T]->(b)", "CREATE (b), (b:B)", "CREATE (b)-[b:T]->()", "CREATE (b), (c {k: b.k})", "CREATE (b {k: nobody})", "CREATE (b {k: count(*)})",
		"SET nobody.k = 1", "SET x.k = 1", "SET r:B", "SET x:B", "SET a.k = nobody", "SET a.k = count(*)", "SET a.k = 1, a.k = f(1)", "SET a:B, r:B",
		"REMOVE nobody.k", "REMOVE x.k", "REMOVE r:B", "REMOVE a.k, nobody:B",
		"DELETE nobody", "DELETE x", "DELETE a, x", "DETACH DELETE x", "DETACH DELETE r, nobody",
	} {
		for _, f := range []api.Frame{good(), frame("n:a r:r x"), frame("n:a r:r x", row(value.Null(), value.Null(), value.Null()))} {
			if got := told(do(t, pair(t), f, read(t, s)[0], param("p", value.Int(1)))); got != "!arg" {
				t.Errorf("%s: %s", s, got)
			}
		}
	}
	// A variable's kind counts, not what it has.
	for _, s := range []string{"MATCH (a)", "CREATE (a)-[:T]->(b)", "SET a.k = 1", "REMOVE a:A", "DELETE a"} {
		hold(t, pair, frame("a", row(node(0))), does{s, "!arg"})
		hold(t, pair, frame("a"), does{s, "!arg"})
	}
}

// Clauses that layer 4 refuses.
func TestRefusedByLayer4(t *testing.T) {
	one := api.Path{Nodes: []api.NodePat{{Var: "b"}}}
	yes := api.Expr{Value: value.Bool(true)}
	x := api.Expr{Kind: api.ExprVar, Name: "x"}
	for name, c := range map[string]api.Clause{
		"a kind below 0":        {Kind: -1},
		"a kind too great":      {Kind: api.ClauseReturn + 1},
		"MATCH of nothing":      {},
		"MATCH with Distinct":   {Paths: []api.Path{one}, Distinct: true},
		"MATCH with a Skip":     {Paths: []api.Path{one}, HasSkip: true, Skip: yes},
		"a Where without HasW.": {Paths: []api.Path{one}, Where: yes},
		"a path of nothing":     {Paths: []api.Path{{}}},
		"a rel too few":         {Kind: api.ClauseCreate, Paths: []api.Path{{Nodes: make([]api.NodePat, 2)}}},
		"a rel too much":        {Kind: api.ClauseCreate, Paths: []api.Path{{Nodes: make([]api.NodePat, 1), Rels: []api.RelPat{{Types: []string{"T"}, Dir: 1}}}}},
		"a great Dir":           {Kind: api.ClauseCreate, Paths: []api.Path{{Nodes: make([]api.NodePat, 2), Rels: []api.RelPat{{Types: []string{"T"}, Dir: 2}}}}},
		"Props without Has":     {Kind: api.ClauseCreate, Paths: []api.Path{{Nodes: []api.NodePat{{Props: api.Expr{Kind: api.ExprMap}}}}}},
		"Props of no map":       {Kind: api.ClauseCreate, Paths: []api.Path{{Nodes: []api.NodePat{{Has: true, Props: x}}}}},
		"a label of no name":    {Kind: api.ClauseCreate, Paths: []api.Path{{Nodes: []api.NodePat{{Labels: []string{""}}}}}},
		"a type of no UTF-8":    {Kind: api.ClauseCreate, Paths: []api.Path{{Nodes: make([]api.NodePat, 2), Rels: []api.RelPat{{Types: []string{"\xff"}, Dir: 1}}}}},
		"CREATE with a Where":   {Kind: api.ClauseCreate, Paths: []api.Path{one}, HasWhere: true, Where: yes},
		"UNWIND without As":     {Kind: api.ClauseUnwind, Expr: x},
		"UNWIND of no kind":     {Kind: api.ClauseUnwind, Expr: api.Expr{Kind: 99}, As: "y"},
		"UNWIND of a node":      {Kind: api.ClauseUnwind, Expr: api.Expr{Value: node(0)}, As: "y"},
		"WITH of nothing":       {Kind: api.ClauseWith},
		"RETURN of nothing":     {Kind: api.ClauseReturn},
		"RETURN with a Where":   {Kind: api.ClauseReturn, Items: []api.Item{{Expr: x}}, HasWhere: true, Where: yes},
		"RETURN of a great Kid": {Kind: api.ClauseReturn, Items: []api.Item{{Expr: api.Expr{Kind: api.ExprNot}}}},
		"a Limit without HasL.": {Kind: api.ClauseReturn, Items: []api.Item{{Expr: x}}, Limit: api.Expr{Value: value.Int(1)}},
		"a key of no kind":      {Kind: api.ClauseReturn, Items: []api.Item{{Expr: x}}, Order: []api.SortKey{{Expr: api.Expr{Kind: -1}}}},
		"SET of nothing":        {Kind: api.ClauseSet},
		"SET of no kind":        {Kind: api.ClauseSet, Sets: []api.SetItem{{Kind: 2, Var: "a", Key: "k"}}},
		"SET of a long key":     {Kind: api.ClauseSet, Sets: []api.SetItem{{Var: "a", Key: strings.Repeat("k", api.MaxName+1)}}},
		"a label with a value":  {Kind: api.ClauseSet, Sets: []api.SetItem{{Kind: api.SetLabel, Var: "a", Key: "k", Value: yes}}},
		"REMOVE with a value":   {Kind: api.ClauseRemove, Sets: []api.SetItem{{Var: "a", Key: "k", Value: yes}}},
		"DELETE of nothing":     {Kind: api.ClauseDelete},
		"DELETE of no name":     {Kind: api.ClauseDelete, Vars: []string{""}},
		"DELETE with Sets":      {Kind: api.ClauseDelete, Vars: []string{"a"}, Sets: []api.SetItem{{Var: "a", Key: "k"}}},
		"SET with Detach":       {Kind: api.ClauseSet, Sets: []api.SetItem{{Var: "a", Key: "k"}}, Detach: true},
	} {
		for _, f := range []api.Frame{good(), frame("n:a r:r x")} {
			if got := told(do(t, pair(t), f, c)); got != "!arg" {
				t.Errorf("%s: %s", name, got)
			}
		}
	}
}

// Parameters whose values may not be, named or not; ahead of all that goes wrong.
func TestParametersThatMayNotBe(t *testing.T) {
	for name, v := range badValues() {
		for _, s := range append(each(), "UNWIND 1 / 0 AS y", "RETURN 1 / 0", "SET a.k = {}", "DELETE a", "CREATE (b {k: $p})") {
			for _, l := range [][]api.Param{{param("p", v)}, {param("q", v)}, {param("", v)}, {param("p", value.Int(1)), param("p", v)}, {param("p", value.Int(1)), param("q", v)}} {
				for _, f := range []api.Frame{good(), frame("n:a r:r x")} {
					if got := told(do(t, pair(t), f, read(t, s)[0], l...)); got != "!arg" {
						t.Errorf("%s, %s: %s", name, s, got)
					}
				}
			}
		}
	}
	// Their names are not asked, and of two of one name the first one counts.
	if got := told(run(t, pair(t), good(), "RETURN $p, $q", param("", value.Int(9)), param("q", node(7)), param("\xff", value.Null()), param("p", value.Int(1)), param("p", value.Int(2)), param("q", value.Null()))); got != "1 n7;" {
		t.Error(got)
	}
}

// What goes wrong in one row is told for all of them, whichever it is, and whatever else there is.
func TestWrongInSomeRow(t *testing.T) {
	for at := range 5 {
		f := frame("n:a x")
		for i := range 5 {
			f.Rows = append(f.Rows, row(node(0), value.Int(int64(i-at))))
		}
		for _, s := range []string{
			"MATCH (b {k: 1 / x})", "MATCH (a) WHERE 1 / x = 1", "OPTIONAL MATCH (b:C {k: 1 / x})", "UNWIND [1 / x] AS y", "UNWIND CASE WHEN x = 0 THEN 0 ELSE [x] END AS y",
			"WITH 1 / x AS y", "WITH a, x WHERE 1 / x > 5", "WITH x ORDER BY 1 / x", "RETURN a, sum(1 / x)", "RETURN count(1 / x)", "RETURN DISTINCT x AS y ORDER BY y, 1 / y DESC",
			"RETURN CASE WHEN x = 0 THEN 1 / x ELSE x END AS y, count(*)", "RETURN x, sum(CASE WHEN x = 0 THEN 'a' ELSE 1 END)",
			"CREATE (b {k: 1 / x})", "CREATE (b)-[:T {k: 1 / x}]->(a)", "SET a.k = 1 / x", "SET a.k = 1, a.l = CASE WHEN x = 0 THEN {} ELSE 1 END",
		} {
			holdGraphs(t, pair, f, draws{s, "!wrong", pairDrawn})
		}
	}
}

// Where several things are wrong, the chapter's order counts.
func TestWhichErrorCounts(t *testing.T) {
	bad := frame("x", row(api.Value{Kind: 99}))
	for _, s := range []string{"UNWIND 1 / 0 AS y", "RETURN 1 / 0", "CREATE (b {k: {}})"} {
		hold(t, empty, bad, does{s, "!arg"})
	}
	// ErrWrong counts ahead of ErrMany, also of what goes wrong in a row behind the one that is too many.
	full := func(t *testing.T) *graph.Graph { return plain(t, api.MaxElements-1) }
	for _, f := range []api.Frame{
		frame("n:a n:b x", row(node(0), node(1), value.Int(1)), row(node(0), node(1), value.Int(1)), row(value.Null(), node(1<<40), value.Int(0))),
		frame("n:a n:b x", row(value.Null(), node(1<<40), value.Int(0)), row(node(0), node(1), value.Int(1)), row(node(0), node(1), value.Int(1))),
	} {
		hold(t, full, f,
			does{"CREATE ()", "!many"},
			does{"CREATE (c {k: 1 / x})", "!wrong"},
			does{"CREATE (c), (d)-[:T {k: 1 / x}]->(c)", "!wrong"},
			does{"CREATE (c {k: CASE WHEN x = 0 THEN {} ELSE 1 END})", "!wrong"},
			does{"CREATE (c)-[:T {k: CASE WHEN x = 0 THEN [null] ELSE 1 END}]->(d)", "!wrong"},
			does{"CREATE (c), (d), (a)", "!wrong"},
			does{"CREATE (c)-[:T]->(a)", "!wrong"},
			does{"CREATE (c), (d)-[:T]->(b)", "!wrong"},
			does{"CREATE (c), (d), (b)", "!many"},
			does{"CREATE (c), (c)-[:T]->(c), (d)-[:T]->(c)", "!many"},
			does{"CREATE (c {k: x}), (d {k: a.k})", "!many"},
		)
	}
	// Of what is too many, too, a node is there when its relationship comes, or is not: the numbers go on.
	next := int64(api.MaxElements - 1)
	for first, want := range map[int64]string{next - 1: "!many", next: "!many", next + 1: "!many", next + 2: "!wrong", 1 << 40: "!wrong"} {
		hold(t, full, frame("n:a", row(node(first)), row(node(0))), does{"CREATE (), (c), (c)-[:T]->(a)", want})
	}
	for second, want := range map[int64]string{next + 1: "!many", next + 3: "!many", next + 4: "!wrong"} {
		hold(t, full, frame("n:a", row(node(0)), row(node(second))), does{"CREATE (a)<-[:T]-(c)-[:T]->(d)-[:T]->(c)", want})
	}
}
