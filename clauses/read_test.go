package clauses_test

import (
	"testing"

	"lattice/api"
	"lattice/clauses"
	"lattice/value"
)

// P9.1: the clauses that do not write.

// The chapter's examples.
func TestExamples(t *testing.T) {
	g := empty(t)
	f, no := run(t, g, clauses.Start(), "UNWIND [3, 1, 1] AS x")
	if got := told(f, no); got != "1;1;3;" {
		t.Error(got)
	}
	if got := told(run(t, g, f, "RETURN x, count(*) ORDER BY x DESC")); got != "3 1;1 2;" {
		t.Error(got)
	}
	f, no = run(t, g, clauses.Start(), "CREATE (a:A)-[:T]->(b)")
	if got := told(f, no) + drawn(g); got != "n0 n1;0:A; 1; r0 0-T->1; 2 1" {
		t.Error(got)
	}
	if got := told(run(t, g, f, "DELETE a")); got != "!attached" {
		t.Error(got)
	}
	if got := told(run(t, g, f, "DETACH DELETE a")) + drawn(g); got != "null n1;1; 2 1" {
		t.Error(got)
	}
}

func TestMatch(t *testing.T) {
	hold(t, world, clauses.Start(),
		does{"MATCH (a)", "n0;n1;n2;n3;"},
		does{"MATCH (a:C)", ""},
		does{"OPTIONAL MATCH (a:C)", "null;"},
		does{"MATCH (a)-[r]->(b)", "n0 r0 n1;n1 r1 n2;n2 r2 n2;n2 r3 n0;"},
		does{"MATCH (a)-[r]->(b) WHERE a.k = b.k", "n2 r2 n2;n2 r3 n0;"},
		does{"MATCH ()", ";;;;"},
		does{"MATCH (a) MATCH (a)-->(b)", "n0 n1;n1 n2;n2 n0;n2 n2;"},
		does{"MATCH (a) OPTIONAL MATCH (a)-[r:T]->(b)", "n0 r0 n1;n1 r1 n2;n2 null null;n3 null null;"},
		does{"OPTIONAL MATCH (a:C) MATCH (a)", ""},
		does{"OPTIONAL MATCH (a:C) OPTIONAL MATCH (a)-[r]->(b)", "null null null;"},
		// A relationship that one clause has given may be given by the next one.
		does{"MATCH (a)-[r:U]->(b) MATCH (c)-[s:U]->(d)", "n2 r2 n2 n2 r2 n2;"},
		does{"UNWIND [2, 1] AS x MATCH (a {k: x})", "1 n0;1 n2;2 n1;"},
		does{"UNWIND [9, 1] AS x OPTIONAL MATCH (a {k: x})", "1 n0;1 n2;9 null;"},
		does{"UNWIND [1, 2] AS x MATCH (a:A) WHERE a.k > x", "1 n1;"},
	)
	f := frame("n:a x", row(node(2), value.Int(7)), row(value.Null(), value.Int(8)), row(node(0), value.Int(9)), row(node(2), value.Int(7)), row(node(4), value.Int(6)))
	hold(t, world, f,
		does{"MATCH (a)", "n0 9;n2 7;n2 7;"},
		does{"MATCH (a)-[r]->(b)", "n0 9 r0 n1;n2 7 r2 n2;n2 7 r2 n2;n2 7 r3 n0;n2 7 r3 n0;"},
		does{"OPTIONAL MATCH (a)-[r:T]->()", "n0 9 r0;n2 7 null;n2 7 null;n4 6 null;null 8 null;"},
		does{"MATCH (b {k: x - 8})", "n0 9 n0;n0 9 n2;"},
	)
	hold(t, world, frame("n:a x"), does{"MATCH (a)-[r]->(b)", ""}, does{"OPTIONAL MATCH (b {k: 1 / 0})", ""}, does{"MATCH (b {k: $none})", ""})
	// The rows of all are put in order, not those of each.
	hold(t, world, frame("r:r x", row(rel(3), value.Int(1)), row(rel(0), value.Int(5)), row(value.Null(), value.Int(1)), row(rel(0), value.Int(2))),
		does{"MATCH (a:A)", "r0 2 n0;r0 2 n1;r0 5 n0;r0 5 n1;r3 1 n0;r3 1 n1;null 1 n0;null 1 n1;"},
	)
}

func TestMatchVars(t *testing.T) {
	f, _ := run(t, world(t), frame("x n:b", row(value.Int(1), node(1))), "MATCH (a)-[r]->(b), (c), (a)-[s]-()")
	if got := toldVars(f.Vars); got != "x n:b n:a r:r n:c r:s" {
		t.Error(got)
	}
	if got := told(f, api.OK); got != "1 n1 n0 r0 n0 r3;1 n1 n0 r0 n1 r3;1 n1 n0 r0 n2 r3;1 n1 n0 r0 n3 r3;" {
		t.Error(got)
	}
}

func TestUnwind(t *testing.T) {
	hold(t, empty, clauses.Start(),
		does{"UNWIND [3, 1, 1] AS x", "1;1;3;"},
		does{"UNWIND [] AS x", ""},
		does{"UNWIND null AS x", ""},
		does{"UNWIND [null] AS x", "null;"},
		does{"UNWIND [null, 1, 'a', true, [1], {k: 1}, []] AS x", "{k: 1};[];[1];'a';true;1;null;"},
		does{"UNWIND [[1, 2], [3], [], null] AS x UNWIND x AS y", "[1, 2] 1;[1, 2] 2;[3] 3;"},
		does{"UNWIND [2, 1] AS x UNWIND range(1, x) AS y", "1 1;2 1;2 2;"},
		does{"UNWIND 5 AS x", "!wrong"},
		does{"UNWIND 'ab' AS x", "!wrong"},
		does{"UNWIND true AS x", "!wrong"},
		does{"UNWIND {k: [1]} AS x", "!wrong"},
		does{"UNWIND [1] + 1 AS x", "!wrong"},
		does{"UNWIND [[1], 2] AS x UNWIND x AS y", "!wrong"},
		does{"UNWIND $none AS x", "!wrong"},
	)
	f := frame("n:a l", row(node(1), value.List(ints(2, 1)...)), row(node(0), value.Null()), row(value.Null(), value.List(ints(5)...)), row(node(0), value.List(ints(7)...)))
	hold(t, world, f,
		does{"UNWIND l AS x", "n0 [7] 7;n1 [2, 1] 1;n1 [2, 1] 2;null [5] 5;"},
		does{"UNWIND labels(a) AS x", "n0 [7] 'A';n0 null 'A';n1 [2, 1] 'A';n1 [2, 1] 'B';"},
		does{"UNWIND [a] AS x", "n0 [7] n0;n0 null n0;n1 [2, 1] n1;null [5] null;"},
		does{"UNWIND a AS x", "!wrong"},
		does{"UNWIND [1 / (size(l) - 1)] AS x", "!wrong"},
	)
	hold(t, world, frame("x"), does{"UNWIND [1, 2] AS y", ""}, does{"UNWIND 5 AS y", ""}, does{"UNWIND 1 / 0 AS y", ""}, does{"UNWIND $none AS y", ""})
	g, _ := run(t, world(t), f, "UNWIND [a] AS b")
	if got := toldVars(g.Vars); got != "n:a l b" {
		t.Error(got)
	}
	if got := told(run(t, empty(t), clauses.Start(), "UNWIND $l AS x", param("l", value.List(ints(2, 1)...)))); got != "1;2;" {
		t.Error(got)
	}
}

// some is a frame of three columns: x, with rows that stand twice, y, and a node.
func some() api.Frame {
	return frame("x y n:a",
		row(value.Int(2), value.String("b"), node(0)),
		row(value.Int(1), value.String("a"), node(1)),
		row(value.Int(2), value.String("a"), node(1)),
		row(value.Null(), value.String("a"), value.Null()),
		row(value.Int(2), value.String("b"), node(0)),
	)
}

func TestItems(t *testing.T) {
	hold(t, world, some(),
		does{"RETURN x", "1;2;2;2;null;"},
		does{"RETURN y, x", "'a' 1;'a' 2;'a' null;'b' 2;'b' 2;"},
		does{"RETURN x + 1 AS z, a.k", "2 2;3 1;3 1;3 2;null null;"},
		does{"RETURN 1 AS one", "1;1;1;1;1;"},
		does{"RETURN x, x AS z, [x, x]", "1 1 [1, 1];2 2 [2, 2];2 2 [2, 2];2 2 [2, 2];null null [null, null];"},
		does{"RETURN DISTINCT x", "1;2;null;"},
		does{"RETURN DISTINCT x, y", "1 'a';2 'a';2 'b';null 'a';"},
		does{"RETURN DISTINCT 1 AS one", "1;"},
		does{"WITH x", "1;2;2;2;null;"},
		does{"WITH DISTINCT y AS z, x", "'a' 1;'a' 2;'a' null;'b' 2;"},
		does{"WITH a AS b, a", "n0 n0;n0 n0;n1 n1;n1 n1;null null;"},
		does{"WITH a AS b MATCH (b)-->(c)", "n0 n1;n0 n1;n1 n2;n1 n2;"},
		does{"WITH x AS y, y AS x RETURN x, y", "'a' 1;'a' 2;'a' null;'b' 2;'b' 2;"},
		does{"RETURN 1 / x", "0;0;0;1;null;"},
		does{"RETURN 1 / (x - 1)", "!wrong"},
		does{"RETURN x, 1 + y", "!wrong"},
		does{"RETURN $none", "!wrong"},
		does{"WITH 1 / (x - 1) AS z", "!wrong"},
	)
	for _, f := range []api.Frame{frame("x y n:a"), {}} {
		hold(t, world, f, does{"RETURN 1 / 0", ""}, does{"WITH $none AS z", ""}, does{"RETURN DISTINCT 1 AS z ORDER BY z / 0", ""}, does{"WITH 1 AS z WHERE 1 / 0", ""})
	}
	hold(t, world, clauses.Start(), does{"RETURN 1 + 1", "2;"}, does{"WITH 1 AS x, 'a' AS y", "1 'a';"}, does{"WITH DISTINCT 1 AS x", "1;"})
	for text, want := range map[string]string{
		"WITH a AS b, x, a, x + 1 AS z, [a] AS l": "n:b x n:a z l",
		"RETURN a, x + 1, count(*), a.k AS k":     "n:a x + 1 count(*) k",
		"WITH count(a) AS a, max(x) AS x":         "a x",
	} {
		f, _ := run(t, world(t), some(), text)
		if got := toldVars(f.Vars); got != want {
			t.Errorf("%s: %s", text, got)
		}
	}
}

func TestOrder(t *testing.T) {
	hold(t, world, some(),
		does{"RETURN x ORDER BY x", "1;2;2;2;null;"},
		does{"RETURN x ORDER BY x DESC", "null;2;2;2;1;"},
		does{"RETURN x, y ORDER BY y, x", "1 'a';2 'a';null 'a';2 'b';2 'b';"},
		does{"RETURN x, y ORDER BY y DESC, x", "2 'b';2 'b';1 'a';2 'a';null 'a';"},
		does{"RETURN x, y ORDER BY y DESC, x DESC", "2 'b';2 'b';null 'a';2 'a';1 'a';"},
		does{"RETURN x, y ORDER BY y, x DESC", "null 'a';2 'a';1 'a';2 'b';2 'b';"},
		// Of the same ones by themselves, which Desc does not turn about.
		does{"RETURN x, y ORDER BY y DESC", "2 'b';2 'b';1 'a';2 'a';null 'a';"},
		does{"RETURN x, y ORDER BY 1 DESC", "1 'a';2 'a';2 'b';2 'b';null 'a';"},
		does{"RETURN x, y ORDER BY x IS NULL DESC, size(y)", "null 'a';1 'a';2 'a';2 'b';2 'b';"},
		does{"RETURN x AS z ORDER BY -(z)", "2;2;2;1;null;"},
		does{"RETURN a, x ORDER BY a.k DESC, x DESC", "null null;n1 2;n1 1;n0 2;n0 2;"},
		does{"RETURN DISTINCT x, y ORDER BY y DESC, x DESC", "2 'b';null 'a';2 'a';1 'a';"},
		does{"RETURN y, count(*) AS n ORDER BY n DESC", "'a' 3;'b' 2;"},
		does{"RETURN x AS z, y ORDER BY z % 2 DESC, y DESC", "null 'a';1 'a';2 'b';2 'b';2 'a';"},
		// WITH's rows are in order, whatever chose them.
		does{"WITH x ORDER BY x DESC", "1;2;2;2;null;"},
		does{"WITH x ORDER BY x DESC LIMIT 2", "2;null;"},
		// Keys are asked on all rows.
		does{"RETURN x ORDER BY 1 / (x - 1)", "!wrong"},
		does{"RETURN x ORDER BY x, 1 / 0", "!wrong"},
		does{"RETURN x ORDER BY 1 / (x - 1) LIMIT 1", "!wrong"},
		does{"WITH x ORDER BY $none", "!wrong"},
	)
	hold(t, world, clauses.Start(), does{"RETURN 1 AS x ORDER BY x / 0", "!wrong"})
}

func TestSkipAndLimit(t *testing.T) {
	hold(t, empty, frame("x", ints(3), ints(1), ints(4), ints(2)),
		does{"RETURN x SKIP 1", "2;3;4;"},
		does{"RETURN x LIMIT 3", "1;2;3;"},
		does{"RETURN x SKIP 1 LIMIT 2", "2;3;"},
		does{"RETURN x ORDER BY x DESC SKIP 1 LIMIT 2", "3;2;"},
		does{"RETURN x SKIP 0", "1;2;3;4;"},
		does{"RETURN x SKIP 4", ""},
		does{"RETURN x SKIP 5 LIMIT 1", ""},
		does{"RETURN x SKIP 9223372036854775807", ""},
		does{"RETURN x LIMIT 0", ""},
		does{"RETURN x LIMIT 4", "1;2;3;4;"},
		does{"RETURN x LIMIT 9223372036854775807", "1;2;3;4;"},
		does{"RETURN x SKIP 2 LIMIT 9223372036854775807", "3;4;"},
		does{"RETURN x SKIP 1 + 1 LIMIT size('a')", "3;"},
		does{"RETURN DISTINCT x % 2 AS y SKIP 1", "1;"},
		does{"RETURN count(*) AS n SKIP 1", ""},
		does{"WITH x SKIP 1 LIMIT 2", "2;3;"},
		does{"WITH x ORDER BY x DESC SKIP 1 LIMIT 2", "2;3;"},
		// Where is asked behind both.
		does{"WITH x ORDER BY x DESC SKIP 1 LIMIT 2 WHERE x > 2", "3;"},
		does{"WITH x LIMIT 1 WHERE x > 1", ""},
		does{"WITH x SKIP 3 WHERE 1 / (x - 1) = 0", "4;"},
	)
	wrong := []string{"SKIP -1", "LIMIT -1", "SKIP 0 LIMIT -1", "SKIP -1 LIMIT 0", "SKIP null", "LIMIT null", "SKIP 'a'", "LIMIT '1'", "SKIP true", "LIMIT [1]", "SKIP {}", "LIMIT 1 / 0", "SKIP $none", "LIMIT $none", "SKIP 9 LIMIT null", "SKIP -9223372036854775808", "LIMIT -9223372036854775808"}
	for _, s := range wrong {
		for _, f := range []api.Frame{frame("x", ints(1), ints(2)), frame("x", ints(1)), frame("x")} {
			hold(t, empty, f, does{"RETURN x " + s, "!wrong"}, does{"WITH x " + s, "!wrong"}, does{"RETURN count(*) " + s, "!wrong"}, does{"WITH DISTINCT x ORDER BY x " + s + " WHERE false", "!wrong"})
		}
	}
	for _, x := range []struct {
		v    api.Value
		want string
	}{{value.Int(1), "2;"}, {value.Int(0), "1;2;"}, {value.Int(-1), "!wrong"}, {value.Null(), "!wrong"}, {node(1), "!wrong"}} {
		if got := told(run(t, empty(t), frame("x", ints(1), ints(2)), "RETURN x SKIP $n", param("n", x.v))); got != x.want {
			t.Error(got)
		}
	}
}

func TestWithWhere(t *testing.T) {
	hold(t, world, some(),
		does{"WITH x, y WHERE x = 2", "2 'a';2 'b';2 'b';"},
		does{"WITH x, y WHERE x = 2 AND y = 'b'", "2 'b';2 'b';"},
		does{"WITH x WHERE null", ""},
		does{"WITH x WHERE x IS NULL", "null;"},
		does{"WITH DISTINCT x WHERE x > 0", "1;2;"},
		does{"WITH y, count(*) AS n WHERE n > 2", "'a' 3;"},
		does{"WITH a WHERE a:B", "n1;n1;"},
		does{"WITH x WHERE x <> 1 AND 1 / (x - 1) = 1", "2;2;2;"},
		does{"WITH x WHERE 1 / (x - 1) = 1", "!wrong"},
		does{"WITH x WHERE x", "!wrong"},
		does{"WITH x WHERE false AND $none", ""},
		does{"WITH x WHERE $none", "!wrong"},
	)
	if got := told(run(t, world(t), some(), "WITH x WHERE x = $p", param("p", value.Int(1)), param("p", value.Int(2)))); got != "1;" {
		t.Error(got)
	}
}

func TestAggregates(t *testing.T) {
	hold(t, world, some(),
		does{"RETURN count(*)", "5;"},
		does{"RETURN count(x)", "4;"},
		does{"RETURN count(DISTINCT x)", "2;"},
		does{"RETURN sum(x), sum(DISTINCT x)", "7 3;"},
		does{"RETURN min(x), max(x), min(y), max(y)", "1 2 'a' 'b';"},
		does{"RETURN collect(x), collect(DISTINCT x)", "[1, 2, 2, 2] [1, 2];"},
		does{"RETURN collect(y), count(1)", "['a', 'a', 'a', 'b', 'b'] 5;"},
		does{"RETURN min(a), max(a), count(a), collect(DISTINCT a)", "n0 n1 4 [n0, n1];"},
		does{"RETURN sum(a.k)", "6;"},
		does{"RETURN x, count(*)", "1 1;2 3;null 1;"},
		does{"RETURN count(*), x", "1 1;1 null;3 2;"},
		does{"RETURN y, sum(x), collect(x), count(*)", "'a' 3 [1, 2] 3;'b' 4 [2, 2] 2;"},
		does{"RETURN x, y, count(*), max(a)", "1 'a' 1 n1;2 'a' 1 n1;2 'b' 2 n0;null 'a' 1 null;"},
		does{"RETURN x + 1, count(*) AS n ORDER BY n DESC LIMIT 1", "3 3;"},
		does{"RETURN DISTINCT x IS NULL AS b, count(DISTINCT y) AS n", "false 2;true 1;"},
		does{"RETURN DISTINCT max(1) AS m, x % 1 AS r", "1 0;1 null;"},
		does{"RETURN x, count(*), x AS z, sum(x), y", "1 1 1 1 'a';2 1 2 2 'a';2 2 2 4 'b';null 1 null 0 'a';"},
		does{"WITH y, count(*) AS n RETURN sum(n), collect(y)", "5 ['a', 'b'];"},
		does{"RETURN sum(y)", "!wrong"},
		does{"RETURN count(1 / (x - 1))", "!wrong"},
		does{"RETURN 1 / (x - 1), count(*)", "!wrong"},
		does{"RETURN x, sum(y)", "!wrong"},
		does{"RETURN count($none)", "!wrong"},
	)
	none := does{"RETURN count(*), count(x), count(DISTINCT x), sum(x), sum(DISTINCT x), min(x), max(x), collect(x), collect(DISTINCT x)", "0 0 0 0 0 null null [] [];"}
	hold(t, empty, frame("x"), none,
		does{"RETURN x, count(*)", ""},
		does{"RETURN 1 AS one, count(*)", ""},
		does{"WITH count(*) AS n", "0;"},
		does{"RETURN count(1 / 0)", "0;"},
		does{"RETURN sum($none)", "0;"},
		does{"RETURN DISTINCT count(*) AS n ORDER BY n SKIP 0 LIMIT 1", "0;"},
		does{"WITH count(*) AS n WHERE n > 0", ""},
	)
	// Of nothing alone it is as of no rows, but for count(*).
	hold(t, empty, frame("x", row(value.Null()), row(value.Null())), does{none.text, "2 0 0 0 0 null null [] [];"}, does{"RETURN x, count(*), sum(x), min(x)", "null 2 0 null;"})
	// What groups rows is that values are the same, not that they are equal.
	hold(t, empty, frame("x",
		row(value.Null()), row(value.List(value.Null())), row(value.Int(1)), row(value.String("1")), row(value.List(value.Null())), row(value.Null()), row(node(1)), row(rel(1)), row(value.String("n1")), row(entry("a", value.Null())), row(entry("a", value.Null())), row(node(1)),
	),
		does{"RETURN x, count(*)", "{a: null} 2;n1 2;r1 1;[null] 2;'1' 1;'n1' 1;1 1;null 2;"},
		does{"RETURN DISTINCT x", "{a: null};n1;r1;[null];'1';'n1';1;null;"},
		does{"RETURN count(DISTINCT x)", "7;"},
		does{"RETURN collect(DISTINCT x)", "[{a: null}, n1, r1, [null], '1', 'n1', 1];"},
		does{"RETURN min(x), max(x)", "{a: null} 1;"},
	)
}

// Rows that read alike when they are written one behind the other are in groups of their own.
func TestGroupsOfTexts(t *testing.T) {
	s := value.String
	f := frame("x y", row(s("a"), s("b c")), row(s("a b"), s("c")), row(s("a' 'b"), s("c")), row(s("a"), s("b' 'c")), row(s(""), s("a3 'b")), row(s("a3 'b"), s("")), row(s("1"), value.Int(2)), row(value.Int(1), s("2")), row(value.Int(12), value.Int(3)), row(value.Int(1), value.Int(23)))
	g, _ := run(t, empty(t), f, "RETURN DISTINCT x, y")
	if len(g.Rows) != len(f.Rows) {
		t.Error(told(g, api.OK))
	}
	g, _ = run(t, empty(t), f, "RETURN x, y, count(*) AS n ORDER BY n DESC")
	if len(g.Rows) != len(f.Rows) || g.Rows[0][2].Int != 1 {
		t.Error(told(g, api.OK))
	}
}

// Parts of a sum may be wider than the sum.
func TestWideSums(t *testing.T) {
	most, least := int64(1<<63-1), int64(-1<<63)
	hold(t, empty, frame("g x", ints(1, most), ints(1, 1), ints(2, least), ints(1, -1), ints(2, -1), ints(2, 1)),
		does{"RETURN g, sum(x)", "1 9223372036854775807;2 -9223372036854775808;"},
		does{"RETURN sum(x)", "-1;"},
		does{"RETURN g, sum(DISTINCT x)", "1 9223372036854775807;2 -9223372036854775808;"},
	)
	hold(t, empty, frame("x", ints(most), ints(1)), does{"RETURN sum(x)", "!wrong"}, does{"WITH sum(DISTINCT x) AS s", "!wrong"})
	hold(t, empty, frame("x", ints(least), ints(-1)), does{"RETURN sum(x)", "!wrong"})
	hold(t, empty, frame("x", ints(most), ints(most)), does{"RETURN sum(x)", "!wrong"}, does{"RETURN sum(DISTINCT x)", "9223372036854775807;"})
	hold(t, empty, frame("g x", ints(1, 1), ints(2, most), ints(2, 1)), does{"RETURN g, sum(x)", "!wrong"})
}
