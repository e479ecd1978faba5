package query_test

import (
	"slices"
	"strings"
	"testing"

	"lattice/api"
	"lattice/query"
	"lattice/value"
)

// P10.2.

func TestFrames(t *testing.T) {
	for _, x := range []struct {
		text string
		want []string
	}{
		{"RETURN 1 AS x", []string{"x: 1;"}},
		{"CREATE ()", []string{": ;"}},
		{"CREATE (a)-[r:T]->(b)", []string{"n:a r:r n:b: n5 r5 n6;"}},
		{"MATCH (a:A) WITH a, a.k AS k UNWIND [k, 0] AS x RETURN x, a ORDER BY x DESC", []string{
			"n:a: n0;n1;", "n:a k: n0 1;n1 2;", "n:a k x: n0 1 0;n0 1 1;n1 2 0;n1 2 2;", "x n:a: 2 n1;1 n0;0 n0;0 n1;"}},
		{"MATCH (a)-[r:T]->(b) SET a.k = 9 DELETE r RETURN a.k", []string{"n:a r:r n:b: n0 r0 n1;n1 r1 n2;", "n:a r:r n:b: n0 r0 n1;n1 r1 n2;", "n:a r:r n:b: n0 null n1;n1 null n2;", "a.k: 9;9;"}},
		{"MATCH (a:Z) OPTIONAL MATCH (b) WITH count(b) AS n CREATE (c {k: n})", []string{"n:a: ", "n:a n:b: ", "n: 0;", "n n:c: 0 n5;"}},
		{"MATCH (a {k: 2}) REMOVE a.k, a:A DETACH DELETE a", []string{"n:a: n1;", "n:a: n1;", "n:a: null;"}},
	} {
		l, no := query.Frames(world(), read(t, x.text))
		var got []string
		for _, f := range l {
			got = append(got, toldFrame(f))
		}
		if no != api.OK || !slices.Equal(got, x.want) {
			t.Errorf("%s: %v: %q, not %q", x.text, no, got, x.want)
		}
		run(t, world(), x.text)
	}
}

// places are queries with one parameter, p, one for each place where an expression may stand, and within each kind of expression.
func places() []string {
	l := []string{
		"MATCH (a {k: $p}) RETURN a",
		"MATCH (a)-[r]->(b {k: $p}) RETURN a",
		"MATCH (a), (b {k: 1, l: $p}) RETURN a",
		"MATCH (a)-[r {k: $p}]->(b) RETURN a",
		"MATCH (a)-[r]->(b)<-[s {k: $p}]-(c) RETURN a",
		"MATCH (a) WHERE a.k = $p RETURN a",
		"OPTIONAL MATCH (a {k: $p}) RETURN a",
		"OPTIONAL MATCH (a) WHERE a.k = $p RETURN a",
		"UNWIND $p AS x RETURN x",
		"WITH $p AS x RETURN x",
		"WITH 1 AS y, $p AS x RETURN x",
		"WITH count($p) AS x RETURN x",
		"WITH 1 AS x ORDER BY $p RETURN x",
		"WITH 1 AS x ORDER BY x, $p DESC RETURN x",
		"WITH 1 AS x SKIP $p RETURN x",
		"WITH 1 AS x LIMIT $p RETURN x",
		"WITH 1 AS x WHERE $p RETURN x",
		"RETURN $p",
		"RETURN DISTINCT 1, $p AS x",
		"RETURN collect(DISTINCT $p)",
		"RETURN 1 AS x ORDER BY $p",
		"RETURN 1 AS x SKIP $p",
		"RETURN 1 AS x LIMIT $p",
		"CREATE (a {k: $p})",
		"CREATE (a), ()-[:T]->({k: $p})",
		"CREATE (a)-[:T {k: $p}]->(b)",
		"CREATE (a) SET a.k = $p",
		"CREATE (a) SET a:A, a.k = $p RETURN a",
	}
	for _, e := range []string{"$p.a", "$p[0]", "[1][$p]", "[$p]", "[1, $p]", "{a: $p}", "{a: 1, b: $p}", "size($p)", "range(1, $p)", "range(1, 2, $p)", "coalesce(1, $p)", "NOT $p", "-$p", "$p IS NULL", "$p IS NOT NULL", "$p:A", "$p OR true", "false AND $p", "$p = 1", "1 IN $p", "'a' STARTS WITH $p", "CASE WHEN $p THEN 1 ELSE 2 END", "CASE WHEN true THEN $p END", "CASE WHEN true THEN 1 WHEN $p THEN 2 END", "CASE WHEN true THEN 1 ELSE $p END", "[[[{a: [-(1 + $p)]}]]]"} {
		l = append(l, "RETURN "+e+" AS x", "UNWIND [1] AS y WITH y WHERE ("+e+") = y RETURN y")
	}
	return l
}

func TestParams(t *testing.T) {
	for _, x := range []struct {
		text string
		want []string
	}{
		{"RETURN 1", nil},
		{"MATCH (p) WHERE p.p = '$p' RETURN p AS `$p`", nil},
		{"RETURN $a", []string{"a"}},
		{"RETURN $b, $a, $b", []string{"a", "b"}},
		{"RETURN $b + $a * $b + $B, $ab, $`a b`, $`é`, $_, $`1`", []string{"1", "B", "_", "a", "a b", "ab", "b", "é"}},
		{"RETURN $match, $`$`, $RETURN", []string{"$", "RETURN", "match"}},
		{"RETURN $x AS y UNWIND $z AS w", []string{"x", "z"}}, // it means nothing, but may be
		{"MATCH (a) DETACH DELETE a", nil},
		{"MATCH (a) REMOVE a.k, a:A", nil},
		{"MATCH (a {k: $p23})-[r {k: $p22, l: $p21}]->(b {k: $p20}), (c {k: $p19}) WHERE a.k = $p18 UNWIND [$p17] AS u WITH a, u AS v, count($p16) AS w ORDER BY $p15, v + $p14 DESC SKIP $p13 LIMIT $p12 WHERE w = $p11 " +
			"CREATE (a)-[:T {k: $p10}]->(d {k: $p09}) SET d.k = $p08, d:A, d.l = {x: $p07} RETURN $p06 AS z, sum(DISTINCT CASE WHEN $p05 THEN $p04 END) ORDER BY z = $p03 SKIP $p02 LIMIT $p01",
			strings.Fields("p01 p02 p03 p04 p05 p06 p07 p08 p09 p10 p11 p12 p13 p14 p15 p16 p17 p18 p19 p20 p21 p22 p23")},
	} {
		if got := query.Params(read(t, x.text)); !slices.Equal(got, x.want) {
			t.Errorf("%s: %q, not %q", x.text, got, x.want)
		}
	}
	if query.Params(api.Query{}) != nil {
		t.Error("nothing has parameters")
	}
}

// A parameter is found wherever it stands: Params tells it, and without it the query is ErrParam, whether it would be asked there or not.
func TestParamsInAllPlaces(t *testing.T) {
	for _, text := range places() {
		q := read(t, text)
		if got := query.Params(q); !slices.Equal(got, []string{"p"}) {
			t.Errorf("%s: %q", text, got)
		}
		refused(t, world(), nil, api.ErrParam, text)
		refused(t, world(), []api.Param{param("q", value.Int(1))}, api.ErrParam, text)
		if _, no := run(t, world(), text, param("p", value.Int(1))); early(no) {
			t.Errorf("%s: %v", text, no)
		}
	}
}

// Params goes through a query that may not be as it stands.
func TestParamsOfWhatMayNotBe(t *testing.T) {
	p := func(name string, kids ...api.Expr) api.Expr {
		return api.Expr{Kind: api.ExprParam, Name: name, Kids: kids}
	}
	q := api.Query{Clauses: []api.Clause{
		{Kind: 99, Expr: p("b")},
		{Kind: api.ClauseDelete, Skip: api.Expr{Kind: -1, Kids: []api.Expr{p("a", p("c"))}}},
		{Paths: []api.Path{{Rels: []api.RelPat{{Props: p("\xff")}}}}},
	}}
	if got := query.Params(q); !slices.Equal(got, []string{"a", "b", "c", "\xff"}) {
		t.Errorf("%q", got)
	}
	deep := p("z")
	for range 1 << 15 {
		deep = api.Expr{Kind: api.ExprNot, Kids: []api.Expr{deep}}
	}
	if got := query.Params(api.Query{Clauses: []api.Clause{{Where: deep}}}); !slices.Equal(got, []string{"z"}) {
		t.Errorf("%q", got)
	}
}

func table(columns string, rows ...[]api.Value) api.Table {
	return api.Table{Columns: strings.Fields(columns), Rows: rows}
}

func TestSame(t *testing.T) {
	one, two := row(value.Int(1), value.String("a")), row(value.Int(2), node(0))
	both := table("x y", one, two)
	tables := []api.Table{
		{}, table("x"), table("x y"), table("y x"), both, table("x y", two, one), table("x y", one), table("x y", two), table("x y", one, one), table("x y", one, two, two),
		table("x z", one, two), table("x y z", one, two), table("X y", one, two), table("x", one, two), table("", one, two),
		table("x y", one, row(value.Int(2), rel(0))), table("x y", one, row(value.Int(2), node(1))), table("x y", one, row(value.Int(2), value.Int(0))), table("x y", one, row(value.Int(2))), table("x y", one, row()),
		table("x y", row(value.Int(1), value.String("A")), two), table("x", row(value.Null())), table("x", row(value.List())), table("x", row(value.List(value.Null()))),
		table("", row()), table("", row(), row()),
	}
	for i, a := range tables {
		for j, b := range tables {
			if query.Same(a, b) != (i == j) {
				t.Errorf("%d %d", i, j)
			}
		}
	}
	// Nil and empty mean the same, within others too.
	for _, x := range [][2]api.Table{
		{{}, {Columns: []string{}, Rows: [][]api.Value{}}},
		{table("", nil), table("", []api.Value{})},
		{table("x", row(api.Value{Kind: api.ValueList})), table("x", row(api.Value{Kind: api.ValueList, List: []api.Value{}, Keys: []string{}}))},
	} {
		if !query.Same(x[0], x[1]) || !query.Same(x[1], x[0]) {
			t.Errorf("%v", x)
		}
	}
}

// A value that may not be is the same as none, not as itself; a column may have any name.
func TestSameOfWhatMayNotBe(t *testing.T) {
	for name, v := range badValues() {
		bad := table("x", row(v))
		if query.Same(bad, bad) || query.Same(bad, table("x", row(value.Null()))) || query.Same(table("x", row(value.Null())), bad) {
			t.Error(name)
		}
		if late := table("x y", row(value.Int(1), value.Int(1)), row(value.Int(1), v)); query.Same(late, late) {
			t.Error(name)
		}
	}
	for _, s := range []string{"", "\xff", "\x00", strings.Repeat("x", api.MaxText+1)} {
		a := api.Table{Columns: []string{s}, Rows: [][]api.Value{row(value.Int(1))}}
		if !query.Same(a, a) || query.Same(a, table("x", row(value.Int(1)))) {
			t.Errorf("%d", len(s))
		}
	}
}
