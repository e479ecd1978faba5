package clauses_test

import (
	"strconv"
	"strings"
	"testing"

	"lattice/api"
	"lattice/clauses"
	"lattice/graph"
	"lattice/value"
)

// P9.1, P9.2: as many as may be, and one more.

// numbers is a frame of one variable, x, with the numbers from 0 on.
func numbers(n int) api.Frame {
	f := frame("x")
	for i := range n {
		f.Rows = append(f.Rows, ints(int64(i)))
	}
	return f
}

func TestMostRows(t *testing.T) {
	half := api.MaxRows / 2
	for _, x := range []struct {
		nodes, rows int
		text        string
		want        int // -1: it goes wrong
	}{
		{0, 1, "UNWIND range(1, 65536) AS y", api.MaxRows},
		{0, 2, "UNWIND range(1, 32768) AS y", api.MaxRows},
		{0, 2, "UNWIND range(1, 32768 + x) AS y", -1},
		{0, 1, "UNWIND range(1, 65537) AS y", -1},
		{0, api.MaxRows, "UNWIND [x] AS y", api.MaxRows},
		{0, api.MaxRows, "UNWIND CASE WHEN x = 7 THEN [1, 2] ELSE [1] END AS y", -1},
		{0, api.MaxRows, "UNWIND CASE WHEN x = 7 THEN [1, 2] WHEN x = 8 THEN [] ELSE [1] END AS y", api.MaxRows},
		{0, api.MaxRows, "UNWIND range(1, x) AS y", -1},
		{256, 256, "MATCH (a)", api.MaxRows},
		{256, 257, "MATCH (a)", -1},
		{256, 257, "MATCH (a) WHERE id(a) < 255", 255 * 257},
		{256, 256, "MATCH (a), (b)", -1},
		{1, api.MaxRows, "MATCH (a)", api.MaxRows},
		{2, api.MaxRows, "MATCH (a) WHERE id(a) = 0 OR x = 9", -1},
		{2, api.MaxRows, "MATCH (a) WHERE id(a) = 0 AND x <> 7 OR x = 9", api.MaxRows},
		{0, api.MaxRows, "OPTIONAL MATCH (a)", api.MaxRows},
		{0, api.MaxRows, "WITH x WHERE x > 0", api.MaxRows - 1},
		{0, api.MaxRows, "RETURN DISTINCT x / 2 AS y", half},
		{0, api.MaxRows, "RETURN x, count(*)", api.MaxRows},
		{0, api.MaxRows, "RETURN count(*), collect(x), sum(x), count(DISTINCT x)", 1},
		{0, api.MaxRows, "RETURN x ORDER BY x % 7, x DESC SKIP 65535", 1},
		{0, api.MaxRows, "CREATE ()", api.MaxRows},
		{0, half, "CREATE (a), (b)", half},
	} {
		g := plain(t, x.nodes)
		f, no := do(t, g, numbers(x.rows), read(t, x.text)[0])
		if x.want < 0 && no != api.ErrWrong || x.want >= 0 && (no != api.OK || len(f.Rows) != x.want) {
			t.Errorf("%d nodes, %d rows, %s: %d %v", x.nodes, x.rows, x.text, len(f.Rows), no)
		}
	}
	f, no := run(t, empty(t), numbers(api.MaxRows), "RETURN count(*), sum(x), min(x), max(x), count(DISTINCT x % 100)")
	if got := told(f, no); got != "65536 2147450880 0 65535 100;" {
		t.Error(got)
	}
}

// A frame of as many rows as may be, on clauses that write.
func TestManyRowsWrite(t *testing.T) {
	g := empty(t)
	f, no := run(t, g, numbers(api.MaxElements), "CREATE (a {k: x}) SET a.k = a.k + 1, a:L REMOVE a:L")
	if no != api.OK || len(f.Rows) != api.MaxElements || f.Rows[9][1].Int != 9 {
		t.Fatal(no)
	}
	if n, _ := g.Node(65535); n.Props[0].Value.Int != 65536 || len(n.Labels) != 0 {
		t.Error(n)
	}
	if got := told(run(t, g, clauses.Start(), "CREATE ()")); got != "!many" {
		t.Error(got)
	}
	f, no = run(t, g, f, "DELETE a RETURN DISTINCT a, count(*)")
	if got := told(f, no) + drawn(g); got != "null 65536;65536 0" {
		t.Error(got)
	}
}

// One node with as many relationships as there may be.
func TestManyRelationships(t *testing.T) {
	half := api.MaxElements/2 - 1
	for _, x := range []draws{
		{"CREATE (h)-[r:T]->(b) DETACH DELETE h RETURN count(h), count(r), count(b)", "0 0 32767;", ""},
		{"CREATE (h)-[r:T]->(b) DELETE b, r, h RETURN count(h), count(r), count(b)", "0 0 0;", "32768 32767"},
		{"CREATE (h)-[r:T]->(b) DELETE h RETURN count(h), count(r), count(b)", "!attached", ""},
		{"CREATE (h)-[r:T]->(b), (h)-[:T]->(h)", "!many", "0; 1 0"},
	} {
		g := plain(t, 1)
		f := frame("n:h")
		for range half {
			f.Rows = append(f.Rows, row(node(0)))
		}
		if got := told(run(t, g, f, x.text)); got != x.want {
			t.Errorf("%s: %s", x.text, got)
		}
		if got := drawn(g); x.graph != "" && got != x.graph {
			t.Errorf("%s: %.100s", x.text, got)
		}
	}
}

func TestMostElements(t *testing.T) {
	near := func(left int) func(t *testing.T) *graph.Graph {
		return func(t *testing.T) *graph.Graph { return plain(t, api.MaxElements-left) }
	}
	two := frame("n:a x", row(node(0), value.Int(1)), row(node(0), value.Int(2)))
	for _, x := range []struct {
		left       int
		text, want string
	}{
		{2, "CREATE (b)", "n0 1 n65534;n0 2 n65535;"},
		{1, "CREATE (b)", "!many"},
		{0, "CREATE (b)", "!many"},
		{0, "CREATE (a)", "n0 1;n0 2;"},
		{2, "CREATE (a)-[r:T]->(a)", "n0 1 r0;n0 2 r1;"},
		{1, "CREATE (a)-[r:T]->(a)", "!many"},
		{4, "CREATE (a)-[r:T]->(b)", "n0 1 r0 n65532;n0 2 r1 n65533;"},
		{3, "CREATE (a)-[r:T]->(b)", "!many"},
		{3, "CREATE (b), (b)-[:T]->(b)", "!many"},
		{4, "CREATE (b), (b)-[:T]->(b)", "n0 1 n65532;n0 2 n65533;"},
	} {
		hold(t, near(x.left), two, does{x.text, x.want})
		hold(t, near(x.left), frame("n:a x"), does{x.text, ""})
	}
	// Room that DELETE makes.
	hold(t, near(0), frame("n:a", row(node(7))), does{"DELETE a CREATE (b)", "null n65536;"}, does{"DELETE a CREATE (b), (c)", "!many"})
}

// The last numbers that there are.
func TestLastNumbers(t *testing.T) {
	end := func(t *testing.T) *graph.Graph {
		return made(t, api.Graph{Nodes: []api.Node{{ID: 1<<62 - 2}}, NextNode: 1<<62 - 1, NextRel: 1<<62 - 1})
	}
	last := frame("n:a", row(node(1<<62-2)))
	holdGraphs(t, end, last,
		draws{"CREATE (b)-[r:T]->(a)", "n4611686018427387902 n4611686018427387903 r4611686018427387903;", "4611686018427387902; 4611686018427387903; r4611686018427387903 4611686018427387903-T->4611686018427387902; 4611686018427387904 4611686018427387904"},
		draws{"CREATE (b), (c)", "!many", "4611686018427387902; 4611686018427387903 4611686018427387903"},
		draws{"CREATE (a)-[:T]->(a)-[:T]->(a)", "!many", "4611686018427387902; 4611686018427387903 4611686018427387903"},
		draws{"CREATE (b), (c {k: 1 / 0})", "!wrong", "4611686018427387902; 4611686018427387903 4611686018427387903"},
		draws{"DELETE a", "null;", "4611686018427387903 4611686018427387903"},
	)
}

// Great parameters are looked at once for a clause, not once for each row.
func TestGreatParameters(t *testing.T) {
	l := value.List(numbersList(api.MaxRows)...)
	for text, want := range map[string]string{
		"UNWIND $l AS x WITH x + $one AS y RETURN sum(y)":                                                       "2147516416;",
		"UNWIND $l AS x MATCH (a {k: x}) RETURN count(*)":                                                       "1;",
		"UNWIND $l AS x WITH x WHERE x < $one RETURN x ORDER BY x + $one":                                       "0;",
		"UNWIND $l AS x OPTIONAL MATCH (a:C) SET a.k = $one RETURN count(*)":                                    "65536;",
		"UNWIND $l AS x MATCH (a {k: 1 + x - x}) WITH a, x WHERE x = 0 SET a.k = x, a.l = $one RETURN a.k, a.l": "0 1;",
	} {
		g := made(t, api.Graph{Nodes: []api.Node{{Props: []api.Prop{prop("k", value.Int(1))}}}, NextNode: 1})
		if got := told(run(t, g, clauses.Start(), text, param("l", l), param("one", value.Int(1)))); got != want {
			t.Errorf("%s: %s", text, got)
		}
	}
}

func numbersList(n int) []api.Value {
	var out []api.Value
	for i := range n {
		out = append(out, value.Int(int64(i)))
	}
	return out
}

// As many items, keys, paths, sets and names as a clause may have.
func TestLongClauses(t *testing.T) {
	each := func(n int, what string) string {
		var l []string
		for i := range n {
			l = append(l, strings.ReplaceAll(what, "#", strconv.Itoa(i)))
		}
		return strings.Join(l, ", ")
	}
	all, g := api.MaxItems, empty(t)
	f, no := run(t, g, numbers(2), "CREATE "+each(all, "(a#)")+" SET "+each(all, "a#.k = x")+" REMOVE "+each(all, "a#.l"))
	if no != api.OK || len(f.Vars) != all+1 || len(f.Rows) != 2 {
		t.Fatal(len(f.Vars), len(f.Rows), no)
	}
	f, no = run(t, g, f, "WITH x, "+each(all-1, "a#")+" ORDER BY "+each(all-1, "x + #")+", x DESC LIMIT 1")
	if no != api.OK || len(f.Rows) != 1 || f.Rows[0][0].Int != 0 || f.Rows[0][all-1].Int != 998 {
		t.Fatal(no)
	}
	if f, no = run(t, g, f, "RETURN "+each(all, "collect(a1.k + #) AS c#")); no != api.OK || toldValue(f.Rows[0][999], api.OK) != "[999]" {
		t.Error(no)
	}
	if got := told(run(t, g, frame("n:a", row(node(0)), row(node(1))), "DELETE "+each(all, "a"))); got != "null;null;" {
		t.Error(got)
	}
}
