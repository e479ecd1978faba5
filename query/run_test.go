package query_test

import (
	"strings"
	"testing"

	"lattice/api"
	"lattice/query"
	"lattice/syntax"
	"lattice/value"
)

// P10.1.

func TestChapterExamples(t *testing.T) {
	hold(t, empty(), nil, means{"RETURN 1 + 1 AS x", "x: 2;", "0 0"})
	hold(t, empty(), nil, means{"CREATE (:A {k: 1}), (:A {k: 2})", "", "0:A {k: 1}; 1:A {k: 2}; 2 0"})
	a, _ := run(t, empty(), "CREATE (:A {k: 1}), (:A {k: 2})")
	m := []api.Param{param("m", value.Int(1))}
	hold(t, a.Graph, m, means{"MATCH (a:A) WHERE a.k > $m RETURN a.k", "a.k: 2;", "0:A {k: 1}; 1:A {k: 2}; 2 0"})
	refused(t, empty(), nil, api.ErrParam, "RETURN $m")
	refused(t, empty(), nil, api.ErrWrong, "RETURN 1/0")
}

func TestExamplesOfTheWhole(t *testing.T) {
	two := "0:A {k: 1}; 1:A {k: 2}; r0 0-T->1; 2 1"
	hold(t, empty(), nil, means{"CREATE (a:A {k: 1})-[:T]->(b:A {k: 2})", "", two})
	a, _ := run(t, empty(), "CREATE (a:A {k: 1})-[:T]->(b:A {k: 2})")
	hold(t, a.Graph, nil,
		means{"MATCH (a:A)-[:T]->(b) RETURN a.k, b.k", "a.k, b.k: 1 2;", two},
		means{"MATCH (a)--(b) RETURN id(a)", "id(a): 0;1;", two},
		means{"MATCH (a) WHERE a.k <> 1 AND 1 / (a.k - 1) = 1 RETURN a.k", "a.k: 2;", two},
		means{"MATCH (a) DETACH DELETE a", "", "2 1"},
		means{"UNWIND [3, 1, 1] AS x RETURN x, count(*) ORDER BY x DESC", "x, count(*): 3 1;1 2;", two})
	hold(t, a.Graph, []api.Param{param("m", value.Int(1))}, means{"MATCH (a:A) WHERE a.k > $m RETURN a.k", "a.k: 2;", two})
	refused(t, a.Graph, nil, api.ErrParam, "MATCH (a:A) WHERE a.k > $m RETURN a.k")
	refused(t, a.Graph, nil, api.ErrWrong, "MATCH (a) WHERE 1 / (a.k - 1) = 1 RETURN a")
	refused(t, a.Graph, nil, api.ErrAttached, "MATCH (a) DELETE a")
}

// One clause alone: RETURN and CREATE may stand so.
func TestOneClause(t *testing.T) {
	hold(t, empty(), nil,
		means{"RETURN null", "null: null;", "0 0"},
		means{"RETURN 1, 'a' AS b, [1, {c: true}] AS l", "1, b, l: 1 'a' [1, {c: true}];", "0 0"},
		means{"RETURN count(*)", "count(*): 1;", "0 0"},
		means{"RETURN 1 AS x SKIP 1", "x: ", "0 0"},
		means{"RETURN 1 AS x LIMIT 0", "x: ", "0 0"},
		means{"CREATE ()", "", "0; 1 0"},
		means{"CREATE (a)-[:T]->(b)<-[:U {w: 1}]-(a)", "", "0; 1; r0 0-T->1; r1 0-U->1 {w: 1}; 2 2"})
	hold(t, world(), nil,
		means{"RETURN 1 AS x", "x: 1;", worldDrawn},
		means{"CREATE (:C)", "", strings.NewReplacer("3; ", "3; 5:C; ", "5 5", "6 5").Replace(worldDrawn)})
}

// Many clauses: each has what the one ahead of it left, of the frame and of the graph.
func TestManyClauses(t *testing.T) {
	hold(t, world(), nil,
		means{"MATCH (a:A) RETURN a", "a: n0;n1;", worldDrawn},
		means{"MATCH (a:A) MATCH (a)-[r]->(b) RETURN a.k, type(r) AS t, b.k AS k", "a.k, t, k: 1 'T' 2;2 'T' 1;", worldDrawn},
		means{"MATCH (a:A) OPTIONAL MATCH (a)-[r:V]->() RETURN a, r", "a, r: n0 null;n1 null;", worldDrawn},
		means{"MATCH (a) WITH a.k AS k, count(*) AS n WHERE n > 1 UNWIND range(1, n) AS i RETURN k, i", "k, i: 1 1;1 2;", worldDrawn},
		means{"MATCH (a) WITH count(*) AS n MATCH (b:B) RETURN n, b", "n, b: 4 n1;4 n2;", worldDrawn},
		means{"MATCH (a:Z) RETURN a", "a: ", worldDrawn},
		means{"MATCH (a:Z) RETURN count(*)", "count(*): 0;", worldDrawn},
		means{"UNWIND [2, 1] AS x UNWIND ['b', 'a'] AS y RETURN y, x ORDER BY x DESC, y", "y, x: 'a' 2;'b' 2;'a' 1;'b' 1;", worldDrawn})
	// A clause sees what those ahead of it wrote.
	hold(t, empty(), nil,
		means{"CREATE (a:A {k: 1}) SET a.k = a.k + 1 SET a.k = a.k * 10 RETURN a.k", "a.k: 20;", "0:A {k: 20}; 1 0"},
		means{"CREATE (:A), (:A) WITH 1 AS x MATCH (a:A) RETURN x, a", "x, a: 1 n0;1 n1;", "0:A; 1:A; 2 0"},
		means{"CREATE (a:A)-[r:T]->(b) REMOVE a:A DELETE r RETURN a, r, labels(a) AS l", "a, r, l: n0 null [];", "0; 1; 2 1"},
		means{"CREATE (a:A) DELETE a CREATE (b:A) RETURN a, b", "a, b: null n1;", "1:A; 2 0"},
		means{"UNWIND [1, 2] AS x CREATE (a {k: x}) WITH a MATCH (b) WHERE b.k = 3 - a.k CREATE (a)-[:T]->(b)", "", "0 {k: 1}; 1 {k: 2}; r0 0-T->1; r1 1-T->0; 2 2"},
		means{"CREATE (a)-[:T]->(a) WITH a MATCH (a)-[r]->(a) SET r.w = 7 DETACH DELETE a RETURN count(a), count(r)", "count(a), count(r): 0 0;", "1 1"})
	hold(t, world(), nil,
		means{"MATCH (a)-[r]->() DELETE r WITH count(*) AS n MATCH (a) DELETE a RETURN DISTINCT n", "n: 4;", "5 5"},
		means{"MATCH (a:A) SET a:C WITH a MATCH (c:C) REMOVE c:C", "", worldDrawn},
		means{"MATCH (a)-[r:T]->(b) SET r.w = a.k + b.k", "", strings.NewReplacer("{w: 1}", "{w: 3}", "{w: 2}", "{w: 3}").Replace(worldDrawn)})
}

// A query without RETURN has no columns and no rows, however many its last frame has.
func TestWithoutReturn(t *testing.T) {
	hold(t, world(), nil,
		means{"MATCH (a) SET a.k = a.k", "", worldDrawn},
		means{"MATCH (a) REMOVE a.z", "", worldDrawn},
		means{"MATCH (a:Z) DELETE a", "", worldDrawn},
		means{"MATCH (a:Z) CREATE (a)-[:T]->()", "", worldDrawn},
		means{"UNWIND [1, 2] AS x MATCH (a {k: x})-[r:V]->() DELETE r", "", strings.Replace(worldDrawn, "r3 2-V->0; ", "", 1)},
		means{"UNWIND [1, 2] AS x MATCH (a {k: x})-[r]->() DELETE r", "", "0:A {k: 1}; 1:A:B {k: 2, t: 'x'}; 2:B {k: 1}; 3; 5 5"})
	f, no := query.Frames(world(), read(t, "MATCH (a) SET a.k = a.k"))
	if no != api.OK || len(f) != 2 || len(f[1].Rows) != 4 {
		t.Errorf("%v %v", f, no)
	}
}

// A table's columns are the Vars' names: As, or layer 4's text, however long; its rows are as ORDER BY puts them.
func TestTables(t *testing.T) {
	hold(t, world(), nil,
		means{"MATCH (a) RETURN a.k+1, -a.k, a:A, NOT a:B AS `x y` ORDER BY `x y`, `a.k + 1` DESC", "a.k + 1, -(a.k), a:A, x y: 3 -2 true false;2 -1 false false;null null false true;2 -1 true true;", worldDrawn},
		means{"MATCH (b) WITH b AS a RETURN a, a AS b, a AS c LIMIT 1", "a, b, c: n0 n0 n0;", worldDrawn},
		means{"MATCH (b) RETURN DISTINCT b.k AS k ORDER BY k DESC SKIP 1 LIMIT 1", "k: 2;", worldDrawn})
	long := strings.Repeat("1 + ", 40) + "1"
	a, no := run(t, empty(), "RETURN "+long)
	if want := syntax.Text(readExpr(t, long)); no != api.OK || len(a.Table.Columns) != 1 || a.Table.Columns[0] != want || len(want) <= api.MaxName || told(a.Table) != want+": 41;" {
		t.Errorf("%v %v", a.Table, no)
	}
}

// No parameters, one, many; those that a query does not name.
func TestParameters(t *testing.T) {
	many := []api.Param{
		param("n", value.Null()), param("b", value.Bool(true)), param("i", value.Int(-7)), param("s", value.String("it's")),
		param("l", value.List(value.Int(2), value.Int(1))), param("a b", node(1)), param("Match", rel(3)), param("$", value.Int(0)), param("$x", value.Int(2)),
	}
	hold(t, world(), many,
		means{"RETURN 1 AS x", "x: 1;", worldDrawn},
		means{"RETURN $n, $b, $i, $s", "$n, $b, $i, $s: null true -7 'it\\'s';", worldDrawn},
		means{"UNWIND $l AS x MATCH (a:A {k: x}) RETURN a, x + $i AS y", "a, y: n0 -6;n1 -5;", worldDrawn},
		means{"RETURN $`a b`.k AS k, type($Match) AS t, $`$x` AS x, $`$` AS z", "k, t, x, z: 2 'V' 2 0;", worldDrawn},
		means{"RETURN $n AS n SKIP $`$` LIMIT $`$x`", "n: null;", worldDrawn},
		means{"MATCH (a {k: 1}) WHERE $b WITH a ORDER BY a.k * $i, $s WITH count(*) AS n RETURN n = $`$x` AS yes", "yes: true;", worldDrawn},
		means{"MATCH (a {t: 'x'}) SET a.t = $s, a.k = $n", "", strings.Replace(worldDrawn, "{k: 2, t: 'x'}", "{t: 'it\\'s'}", 1)},
		means{"CREATE ({k: $l})-[:W {w: $i, z: $n}]->()", "", strings.NewReplacer("3; ", "3; 5 {k: [2, 1]}; 6; ", "5 5", "r5 5-W->6 {w: -7}; 7 6").Replace(worldDrawn)})
	// Names of parameters are other things than variables; case counts in both.
	hold(t, world(), []api.Param{param("a", value.Int(1)), param("A", value.Int(2))}, means{"MATCH (a:A {k: $a}) RETURN a, $a, $A", "a, $a, $A: n0 1 2;", worldDrawn})
	refused(t, world(), []api.Param{param("A", value.Int(2))}, api.ErrParam, "RETURN $a")
}

// A text is what its query is, however it is written.
func TestTexts(t *testing.T) {
	for _, text := range []string{"return 1+1 as x", "RETURN/**/1 + 1 AS `x` // the end", "\n RETURN 1\t+ 1 AS x \r\n", "RETURN ((1) + (1)) AS x"} {
		hold(t, world(), nil, means{text, "x: 2;", worldDrawn})
	}
}

// Ask tells the errors ahead of the first clause alone.
func TestAsk(t *testing.T) {
	m := param("m", value.Int(1))
	for _, x := range []struct {
		text   string
		params []api.Param
		want   api.Errno
	}{
		{"RETURN 1", nil, api.OK},
		{"RETURN 1/0", nil, api.OK},
		{"MATCH (a) DELETE a", nil, api.OK},
		{"RETURN $m / 0", []api.Param{m}, api.OK},
		{"RETURN $m / 0", nil, api.ErrParam},
		{"RETURN $m / 0", []api.Param{param("M", value.Int(1))}, api.ErrParam},
		{"RETURN x, $m", nil, api.ErrVar},
		{"RETURN x, $m", []api.Param{m, m}, api.ErrArg},
	} {
		if no := query.Ask(world(), read(t, x.text), x.params...); no != x.want {
			t.Errorf("%s: %v, not %v", x.text, no, x.want)
		}
	}
	if no := query.Ask(plain(api.MaxElements), read(t, "CREATE ()")); no != api.OK {
		t.Error(no)
	}
}
