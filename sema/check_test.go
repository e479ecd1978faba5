package sema_test

import (
	"slices"
	"strings"
	"testing"

	"lattice/api"
	"lattice/sema"
)

// P6.1: Check.

// wrong holds queries, in each text the one wrong clause behind a ^, against an error.
func wrong(t *testing.T, want api.Errno, texts ...string) {
	t.Helper()
	for _, s := range texts {
		ahead, rest, marked := strings.Cut(s, "^")
		if !marked {
			t.Fatal(s)
		}
		at := 0
		if strings.TrimSpace(ahead) != "" {
			at = len(query(t, ahead).Clauses)
		}
		shape, n, e := sema.Check(query(t, ahead+rest))
		if n != at || e != want || !sameShape(shape, api.Shape{}) {
			t.Errorf("%s: %v in %d, %v", s, e, n, shape)
		}
	}
}

func TestQueriesOfVariablesThatAreNotThere(t *testing.T) {
	wrong(t, api.ErrVar,
		"^RETURN x", "MATCH (a) ^RETURN b", "MATCH (a) ^RETURN A", "MATCH (a) WITH a AS b ^RETURN a", "MATCH (a) WITH 1 AS x ^DELETE a",
		"^MATCH (a) WHERE b.x = 1 RETURN a", "^MATCH (a {k: a.k}) RETURN a", "^MATCH (a), (b {k: a.k}) RETURN a", "^MATCH (a)-[r {k: a}]->() RETURN a", "^MATCH ()-[r {k: r.k}]->() RETURN r", "MATCH (a) ^MATCH (b {k: x}) RETURN a",
		"^UNWIND x AS x RETURN x", "^UNWIND [1, [y]] AS x RETURN x",
		"MATCH (a) ^WITH a AS x, x AS y RETURN 1", "MATCH (a) ^WITH a AS x ORDER BY a RETURN 1", "MATCH (a) ^WITH a.k AS x WHERE a.k = 1 RETURN 1", "MATCH (a) ^RETURN a AS x ORDER BY x, a", "MATCH (a) ^RETURN a.k ORDER BY a.k",
		"UNWIND [1] AS x ^RETURN x SKIP x", "UNWIND [1] AS x ^RETURN x LIMIT x", "UNWIND [1] AS x ^WITH x SKIP x RETURN x", "UNWIND [1] AS x ^WITH x LIMIT 1 + x RETURN x",
		"^CREATE (a {k: a.k})", "^CREATE (a), (b {k: a.k})", "^CREATE (a)-[r:T {k: r.k}]->()", "^CREATE ({k: x})", "^CREATE ()-[:T {k: x}]->()",
		"^SET x.k = 1", "^SET x:L", "^REMOVE x.k", "^REMOVE x:L", "MATCH (a) ^SET a.k = x", "MATCH (a) ^SET a.k = 1, a.l = b.k", "MATCH (a) ^SET a.k = 1, b.k = 1", "MATCH (a) ^REMOVE a.k, b.k",
		"^DELETE x", "MATCH (a) ^DETACH DELETE a, b", "MATCH (a) ^RETURN count(b)", "MATCH (a) ^RETURN collect(DISTINCT b.k)",
	)
}

func TestQueriesOfFunctionsThatAreNotThere(t *testing.T) {
	wrong(t, api.ErrFunction,
		"^RETURN nope(1)", "^RETURN ID(1)", "^RETURN tostring(1)", "^RETURN abs()", "^RETURN abs(1, 2)", "^RETURN range(1)", "^RETURN range(1, 2, 3, 4)", "^RETURN coalesce()",
		"^RETURN count(1, 2)", "^RETURN count()", "^RETURN sum(1, 2)", "^RETURN sum()", "^RETURN min(1, 2)", "^RETURN min()", "^RETURN max(1, 2)", "^RETURN max()", "^RETURN collect(1, 2)", "^RETURN collect()", "^RETURN count(DISTINCT 1, 2)", "^RETURN sum(1, 2, 3)", "^RETURN 1, count()", "^WITH count() AS x RETURN x", "^WITH collect(1, 2) AS x RETURN x", "^RETURN Count(1)", "^RETURN abs(DISTINCT 1)", "^RETURN coalesce(DISTINCT 1, 2)", "^RETURN count(nope(1))", "^RETURN avg(1)",
		"^MATCH (a) WHERE nope(a) RETURN a", "^MATCH ({k: nope()}) RETURN 1", "^MATCH ()-[{k: nope()}]-() RETURN 1", "^UNWIND nope() AS x RETURN x", "^WITH nope() AS x RETURN x", "^RETURN 1 ORDER BY nope()", "^RETURN 1 SKIP nope()", "^RETURN 1 LIMIT nope()", "^WITH 1 AS x WHERE nope() RETURN x",
		"^CREATE ({k: nope()})", "^CREATE ()-[:T {k: nope()}]->()", "MATCH (a) ^SET a.k = nope()",
	)
}

func TestQueriesOfAggregatesWhereNoneMayBe(t *testing.T) {
	wrong(t, api.ErrAggregate,
		"^RETURN abs(count(*))", "^RETURN 1 + count(*)", "^RETURN count(count(*))", "^RETURN count(sum(1))", "^RETURN [count(1)]", "^RETURN -count(*)", "^RETURN sum(1) = 1", "^RETURN {k: min(1)}", "^RETURN max(1).k", "^RETURN collect(DISTINCT 1)[0]", "^WITH abs(count(*)) AS x RETURN x",
		"^MATCH (a) WHERE count(*) = 1 RETURN a", "^MATCH ({k: count(*)}) RETURN 1", "^MATCH ()-[{k: max(1)}]-() RETURN 1", "^UNWIND collect(1) AS x RETURN x", "^RETURN count(*) ORDER BY count(*)", "^RETURN 1 SKIP count(*)", "^RETURN 1 LIMIT sum(1)", "^WITH count(*) AS c WHERE count(*) > 1 RETURN c", "^WITH 1 AS x ORDER BY min(x) RETURN x",
		"^CREATE ({k: count(*)})", "^CREATE ()-[:T {k: sum(1)}]->()", "MATCH (a) ^SET a.k = count(*)",
	)
}

// A call of an aggregate with other than one Kid is asked whether it is one ahead of how many Kids it has.
func TestQueriesOfAggregatesWithoutOneKid(t *testing.T) {
	for _, a := range []string{"count()", "sum()", "min()", "max()", "collect()", "count(1, 2)", "sum(1, 2)", "min(1, 2)", "max(1, 2)", "collect(1, 2)", "count(DISTINCT 1, 2)", "sum(1, 2, 3)"} {
		for _, s := range []string{
			"^RETURN abs(?)", "^RETURN [?]", "^RETURN 1 + ?", "^RETURN count(?)", "^RETURN collect(DISTINCT ?)", "^WITH [?] AS x RETURN x", "^WITH sum(?) AS x RETURN x",
			"^MATCH (a) WHERE ? RETURN a", "^MATCH (a) WHERE a.k = 1 AND ? = 1 RETURN a", "^MATCH ({k: ?}) RETURN 1", "^MATCH ()-[{k: ?}]-() RETURN 1", "^UNWIND ? AS x RETURN x", "MATCH (a) ^RETURN a ORDER BY ?", "^WITH 1 AS x ORDER BY ? RETURN x", "^RETURN 1 SKIP ?", "^RETURN 1 LIMIT ?", "^WITH 1 AS x WHERE ? RETURN x",
			"^CREATE ({k: ?})", "^CREATE ()-[:T {k: ?}]->()", "MATCH (a) ^SET a.k = ?",
		} {
			wrong(t, api.ErrAggregate, strings.ReplaceAll(s, "?", a))
		}
		wrong(t, api.ErrFunction, "^RETURN "+a, "^WITH "+a+" AS x RETURN x", "^WITH "+a+" RETURN 1", "^RETURN 1, "+a+", "+a)
	}
}

func TestQueriesOfVariablesOfAnotherKind(t *testing.T) {
	wrong(t, api.ErrKind,
		"UNWIND [1] AS x ^MATCH (x) RETURN x", "MATCH ()-[r]->() ^MATCH (r) RETURN r", "^MATCH ()-[r]->(r) RETURN r", "^MATCH ()-[r]->(), (r) RETURN r", "MATCH (a) WITH a.k AS a ^MATCH (a) RETURN a", "MATCH (a) WITH collect(a) AS b ^MATCH ()--(b) RETURN b", "MATCH (a) WITH max(a) AS a ^DELETE a",
		"UNWIND [1] AS x ^CREATE (x)", "MATCH ()-[r]->() ^CREATE (r)-[:T]->()", "^CREATE ()-[r:T]->(r)",
		"UNWIND [1] AS x ^SET x.k = 1", "UNWIND [1] AS x ^SET x:L", "UNWIND [1] AS x ^REMOVE x.k", "UNWIND [1] AS x ^REMOVE x:L", "MATCH ()-[r]->() ^SET r:L", "MATCH ()-[r]->() ^REMOVE r:L", "MATCH (a) WITH coalesce(a) AS a ^SET a.k = 1", "MATCH ()-[r]-() WITH r AS s ^SET s:L",
		"UNWIND [1] AS x ^DELETE x", "MATCH (a) UNWIND [1] AS x ^DETACH DELETE a, x",
	)
}

func TestQueriesOfNamesThatAreThereAlready(t *testing.T) {
	wrong(t, api.ErrAgain,
		"MATCH (a) ^MATCH ()-[a]->() RETURN a", "^MATCH (a)-[a]->() RETURN a", "^MATCH ()-[r]->()-[r]->() RETURN r", "^MATCH ()-[r]->(), ()-[r]->() RETURN r", "MATCH ()-[r]->() ^MATCH ()-[r]->() RETURN r", "UNWIND [1] AS x ^MATCH ()-[x]->() RETURN x",
		"UNWIND [1] AS x ^UNWIND [1] AS x RETURN x", "MATCH (a) ^UNWIND [a] AS a RETURN a",
		"MATCH (a) ^RETURN a AS x, 1 AS x", "MATCH (a) ^RETURN a, a", "^RETURN 1, 1", "^RETURN 1, 2 AS `1`", "^RETURN 2 AS `count(*)`, count(*)", "MATCH (a) ^WITH a, a RETURN a", "MATCH (a), (b) ^WITH a, b AS a RETURN a", "MATCH (a), (b) ^WITH b AS a, a RETURN a", "^WITH 1 AS x, 2 AS y, 3 AS x RETURN x",
		"MATCH ()-[r]->() ^CREATE ()-[r:T]->()", "^CREATE (a)-[a:T]->()", "^CREATE ()-[r:T]->(), ()-[r:T]->()", "UNWIND [1] AS x ^CREATE ()-[x:T]->()",
	)
}

func TestQueriesOfClausesWhereTheyMayNotStand(t *testing.T) {
	wrong(t, api.ErrOrder,
		"^MATCH (a)", "^OPTIONAL MATCH (a)", "^UNWIND [1] AS x", "^WITH 1 AS x", "CREATE (a) ^MATCH (b)", "MATCH (a) ^WITH a", "MATCH (a) DELETE a ^UNWIND [1] AS x",
		"^RETURN 1 RETURN 2", "^RETURN 1 MATCH (a)", "^RETURN 1 CREATE (a)", "MATCH (a) ^RETURN a MATCH (b) RETURN b", "^RETURN 1 RETURN x", "^RETURN 1 AS x DELETE x", "^RETURN 1 WITH 2 RETURN 3",
	)
}

func TestQueriesOfItemsWithoutAName(t *testing.T) {
	wrong(t, api.ErrName,
		"MATCH (a) ^WITH a.x RETURN 1", "^WITH 1 RETURN 1", "^WITH count(*) RETURN 1", "^WITH $p RETURN 1", "MATCH (a) ^WITH a, a.x RETURN 1", "^WITH [1] RETURN 1", "MATCH (a) ^WITH count(a) RETURN 1", "MATCH (a) ^WITH a, a = a RETURN 1",
	)
}

func TestQueriesOfPatternsThatCantBeMade(t *testing.T) {
	wrong(t, api.ErrPattern,
		"^CREATE (a)-[:T]-(b)", "^CREATE (a)--(b)", "^CREATE (a)-->(b)", "^CREATE (a)<--(b)", "^CREATE ()-[r]->()", "^CREATE ()-[:T|U]->()", "^CREATE ()<-[:T|U|V]-()", "^CREATE ()-[:T]->()-[:T]-()", "^CREATE (), ()-[{k: 1}]->()", "^CREATE ()-[:T|T]->()",
		"MATCH (a) ^CREATE (a:L)", "MATCH (a) ^CREATE (a {k: 1})", "MATCH (a) ^CREATE (a {})", "MATCH (a) ^CREATE ()-[:T]->(a:L)", "^CREATE (a), (a:L)", "^CREATE (a:L)-[:T]->(a:L)", "^CREATE (a {k: 1})-[:T]->(a {k: 1})", "^CREATE (a)<-[:T]-(a {})",
	)
}

// Of two wrong things the first one is told: clause by clause, and within a clause in the chapter's order.
func TestWhatIsWrongFirst(t *testing.T) {
	for want, l := range map[api.Errno][]string{
		api.ErrVar: {
			"^RETURN x, nope()", "^RETURN x + nope(count(*))", "^RETURN x RETURN y", "^MATCH (a {k: x}), ()-[a]->()", "^MATCH (a {k: x})-[a]->()", "^MATCH (a) WHERE x", "^UNWIND x AS y UNWIND [1] AS y", "UNWIND [1] AS x ^UNWIND y AS x", "^WITH x, 1 RETURN 1", "UNWIND [1] AS x ^WITH x, y AS x RETURN 1", "^WITH y.k RETURN 1",
			"UNWIND [1] AS x ^RETURN x ORDER BY y SKIP count(*)", "UNWIND [1] AS x ^RETURN 1 ORDER BY x LIMIT nope()", "^WITH 1 AS x SKIP x WHERE nope() RETURN 1", "^WITH 1 AS x LIMIT x WHERE count(*) RETURN 1", "^RETURN 1 SKIP x LIMIT nope()",
			"^CREATE ({k: x})-[:T]-()", "^CREATE ()-[:T {k: x}]->()-[:T]-()", "^CREATE (a {k: x}), (a:L)", "^SET x.k = nope()", "UNWIND [1] AS x ^SET y.k = 1, x.k = 1", "MATCH (a) UNWIND [1] AS x ^SET a.k = y, x.k = 1", "UNWIND [1] AS x ^REMOVE y.k, x.k", "UNWIND [1] AS x ^DELETE y, x", "MATCH (a) ^RETURN coalesce(b, nope())", "MATCH (a) ^RETURN abs(b.k + count(*))",
		},
		api.ErrFunction: {
			"^RETURN nope(x)", "^RETURN nope(count(*))", "^RETURN abs(x, y)", "^RETURN nope() + x", "^RETURN [nope(), count(*), x]", "^RETURN count(x, y)", "^RETURN sum(count(*), x)", "^RETURN collect(sum(), x)", "^RETURN count(), x", "^RETURN count() RETURN 1", "^RETURN abs(count(), x)", "^RETURN count(nope(x))", "^RETURN 1 ORDER BY nope() SKIP x", "^RETURN 1 LIMIT nope() RETURN 1", "^WITH nope() RETURN 1", "^WITH 1 AS x, nope() AS x RETURN 1", "^RETURN CASE WHEN nope() THEN x ELSE count(*) END", "^RETURN abs(DISTINCT count(*))",
		},
		api.ErrAggregate: {
			"^RETURN abs(count(x))", "^RETURN 1 + sum(nope())", "^RETURN count(*) + x", "^RETURN count(sum(x))", "^RETURN [max(nope()), x]", "^RETURN abs(count(x, nope()))", "^RETURN [count(), x, nope()]", "^RETURN count(min(x, y))", "^RETURN 1 ORDER BY sum() SKIP x", "^RETURN 1 ORDER BY count(x)", "^WITH abs(count(*)) RETURN 1", "^WITH 1 AS x, [count(*)] AS x RETURN 1",
		},
		api.ErrKind: {
			"UNWIND [1] AS x ^MATCH (x {k: y}) RETURN 1", "UNWIND [1] AS x ^MATCH (x)-[x]->() RETURN 1", "UNWIND [1] AS x ^CREATE (x:L)", "UNWIND [1] AS x ^CREATE (x {k: y})", "UNWIND [1] AS x ^CREATE (x)-[:T]-()", "UNWIND [1] AS x ^SET x.k = y", "UNWIND [1] AS x ^SET x:L, y:L", "UNWIND [1] AS x ^REMOVE x.k, y.k", "UNWIND [1] AS x ^DELETE x, y", "^MATCH ()-[r]->(r {k: x})", "^MATCH ()-[r]->(r) WHERE x",
		},
		api.ErrAgain: {
			"^MATCH (a)-[a {k: x}]->()", "^MATCH ()-[r]->()-[r]->(r)", "^CREATE (a)-[a:T {k: x}]->()", "^CREATE (a)-[a:T]->()-[:T]-()", "UNWIND [1] AS x ^UNWIND [2] AS x", "^RETURN 1, 1, x", "^WITH 1 AS x, 2 AS x, 3 RETURN 1", "^RETURN 1, 1 ORDER BY y", "^RETURN 1 AS x, 2 AS x RETURN 3", "MATCH (a) ^WITH a, 1 AS a, y AS z RETURN 1",
		},
		api.ErrName:    {"^WITH 1, 1 RETURN 1", "^WITH 1, x RETURN 1", "UNWIND [1] AS x ^WITH x AS `1`, 1 RETURN 1", "^WITH 1 ORDER BY x RETURN 1", "^WITH 1", "^WITH 1 WHERE x"},
		api.ErrPattern: {"^CREATE (a)-[a:T]-()", "^CREATE (a)-[a {k: x}]->()", "MATCH (a) ^CREATE (a {k: x})", "MATCH (a) ^CREATE (a:L)-[:T]->(b {k: x})", "MATCH (a) ^CREATE (a:L {k: x})", "^CREATE ()-[:T {k: x}]-()", "UNWIND [1] AS x ^CREATE ()-[x]->()", "UNWIND [1] AS x ^CREATE ()--(x)"},
		api.ErrOrder:   {"^MATCH (a)", "^RETURN 1 RETURN x", "^RETURN 1 AS x MATCH ()-[x]->(x) RETURN y"},
	} {
		wrong(t, want, l...)
	}
}

// The number of the clause is told up to the last one that may be.
func TestWhichClauseIsWrong(t *testing.T) {
	for n := 1; n < api.MaxClauses; n++ {
		q := query(t, "CREATE (a)"+strings.Repeat(" SET a.k = 1", api.MaxClauses-1))
		q.Clauses[n].Sets[0].Var = "b"
		q.Clauses[api.MaxClauses-1].Sets[0].Value = api.Expr{Kind: api.ExprCount}
		if shape, at, e := sema.Check(q); at != n || e != api.ErrVar || !sameShape(shape, api.Shape{}) {
			t.Errorf("%d: %d %v", n, at, e)
		}
	}
}

func TestShapes(t *testing.T) {
	for _, x := range []struct {
		text    string
		behind  []string
		columns []string
		writes  bool
	}{
		{"RETURN 1", []string{"1"}, []string{"1"}, false},
		{"MATCH (a)-[r]->(b) WHERE a.x = 1 RETURN a, count(*)", []string{"n-a r-r n-b", "n-a count(*)"}, []string{"a", "count(*)"}, false},
		{"CREATE ()", []string{""}, nil, true},
		{"CREATE (a)-[r:T]->(b)<-[:T]-(a)", []string{"n-a r-r n-b"}, nil, true},
		{"CREATE (a) RETURN a", []string{"n-a", "n-a"}, []string{"a"}, true},
		{"MATCH (a) CREATE (a)-[r:T]->(b:L {k: a.k})", []string{"n-a", "n-a r-r n-b"}, nil, true},
		{"MATCH (b), (a), (b)--(c)--(a) RETURN 1 AS x", []string{"n-b n-a n-c", "x"}, []string{"x"}, false},
		{"MATCH (a) MATCH (a)-[r]-(b {k: a.k}) OPTIONAL MATCH (b)-[s {k: r.k}]-() DELETE a, r, s", []string{"n-a", "n-a r-r n-b", "n-a r-r n-b r-s", "n-a r-r n-b r-s"}, nil, true},
		{"MATCH (a) SET a.k = a.l, a:L REMOVE a.k, a:L", []string{"n-a", "n-a", "n-a"}, nil, true},
		{"MATCH (a) SET a:L", []string{"n-a", "n-a"}, nil, true},
		{"MATCH (a) REMOVE a.k", []string{"n-a", "n-a"}, nil, true},
		{"MATCH (a) DETACH DELETE a", []string{"n-a", "n-a"}, nil, true},
		{"MATCH (a) DELETE a RETURN a", []string{"n-a", "n-a", "n-a"}, []string{"a"}, true},
		{"MATCH ()-[r]-() SET r.k = 1 RETURN r AS s", []string{"r-r", "r-r", "r-s"}, []string{"s"}, true},
		{"UNWIND [1] AS x UNWIND [x] AS y RETURN y, x", []string{"x", "x y", "y x"}, []string{"y", "x"}, false},
		{"MATCH (a)-[r]-() WITH r AS a, a AS r, 1 AS x MATCH (r) WHERE a.k = x RETURN a, r", []string{"n-a r-r", "r-a n-r x", "r-a n-r x", "r-a n-r"}, []string{"a", "r"}, false},
		{"MATCH (a) WITH a, count(*) AS c ORDER BY a.k DESC, c SKIP 1 LIMIT $n WHERE c > 1 AND a:L RETURN a.k, c + 1", []string{"n-a", "n-a c", "a.k c_+_1"}, []string{"a.k", "c + 1"}, false},
		{"MATCH (a) WITH 1 AS x MATCH (a) RETURN x, a", []string{"n-a", "x", "x n-a", "x n-a"}, []string{"x", "a"}, false},
		{"MATCH (a) RETURN a AS b, (a) AS c, coalesce(a) AS d, min(a) AS e, a.k AS f, [a][0] AS g", []string{"n-a", "n-b n-c d e f g"}, []string{"b", "c", "d", "e", "f", "g"}, false},
		{"MATCH (a) RETURN DISTINCT a.k, count(DISTINCT a.k), COUNT(*), sum(a.k), not(a.k)  ", []string{"n-a", "a.k count(DISTINCT_a.k) count(*) sum(a.k) NOT_a.k"}, []string{"a.k", "count(DISTINCT a.k)", "count(*)", "sum(a.k)", "NOT a.k"}, false},
		{"RETURN 1 + 1 AS x ORDER BY x DESC, 2 SKIP 1 + 1 LIMIT abs($n)", []string{"x"}, []string{"x"}, false},
		{"MATCH (`a b`) RETURN `a b`", []string{"n-a_b", "n-`a_b`"}, []string{"`a b`"}, false},
		{"RETURN 1 AS `a b` ORDER BY `a b`", []string{"a_b"}, []string{"a b"}, false},
		{"MATCH (a) RETURN a.k ORDER BY `a.k`", []string{"n-a", "a.k"}, []string{"a.k"}, false},
		{"MATCH (A), (a) RETURN A, a", []string{"n-A n-a", "n-A n-a"}, []string{"A", "a"}, false},
		{"MATCH (count) RETURN count, id(count) AS id", []string{"n-count", "n-count id"}, []string{"count", "id"}, false},
		{"RETURN id(1), labels(1), type(1), size(1), head(1), last(1), abs(1), keys(1), toString(1), range(1, 2), range(1, 2, 3), coalesce(1), coalesce(1, 2, 3, 4)",
			[]string{"id(1) labels(1) type(1) size(1) head(1) last(1) abs(1) keys(1) toString(1) range(1,_2) range(1,_2,_3) coalesce(1) coalesce(1,_2,_3,_4)"},
			[]string{"id(1)", "labels(1)", "type(1)", "size(1)", "head(1)", "last(1)", "abs(1)", "keys(1)", "toString(1)", "range(1, 2)", "range(1, 2, 3)", "coalesce(1)", "coalesce(1, 2, 3, 4)"}, false},
		{"UNWIND [1] AS x RETURN count(x), sum(x), min(x), max(x), collect(abs(x)), count(DISTINCT x)", []string{"x", "count(x) sum(x) min(x) max(x) collect(abs(x)) count(DISTINCT_x)"}, []string{"count(x)", "sum(x)", "min(x)", "max(x)", "collect(abs(x))", "count(DISTINCT x)"}, false},
	} {
		want := api.Shape{Columns: x.columns, Writes: x.writes}
		for _, s := range x.behind {
			want.Behind = append(want.Behind, vars(s))
		}
		if shape, at, e := sema.Check(query(t, x.text)); !sameShape(shape, want) || at != 0 || e != api.OK {
			t.Errorf("%s: %v %d %v, not %v", x.text, shape, at, e, want)
		}
	}
}

// Names that a WITH tells without AS are layer 4's texts, quoted where they must be.
func TestQuotedNames(t *testing.T) {
	q := query(t, "MATCH (`a b`) WITH `a b` RETURN ```a b```")
	shape, at, e := sema.Check(q)
	if e != api.OK || at != 0 || !slices.Equal(shape.Behind[1], vars("n-`a_b`")) {
		t.Error(shape, at, e)
	}
	wrong(t, api.ErrVar, "MATCH (`a b`) WITH `a b` ^RETURN `a b`")
}

func TestQueriesThatLayer4Refuses(t *testing.T) {
	refused := func(q api.Query, what string) {
		t.Helper()
		if shape, at, e := sema.Check(q); at != 0 || e != api.ErrArg || !sameShape(shape, api.Shape{}) {
			t.Errorf("%s: %v %d %v", what, shape, at, e)
		}
	}
	refused(api.Query{}, "none")
	refused(api.Query{Clauses: []api.Clause{}}, "none")
	most := query(t, "CREATE (a) "+strings.Repeat("DELETE a ", api.MaxClauses-1))
	if _, at, e := sema.Check(most); at != 0 || e != api.OK {
		t.Error(at, e)
	}
	refused(api.Query{Clauses: append(slices.Clone(most.Clauses), most.Clauses[1])}, "too many clauses")
	unlike := query(t, "MATCH (n) RETURN n")
	unlike.Clauses[0].As = "x"
	refused(unlike, "what its kind does not use")
	refused(api.Query{Clauses: []api.Clause{{Kind: -1}}}, "no kind")
	refused(api.Query{Clauses: []api.Clause{{Kind: api.ClauseReturn + 1}}}, "no kind")
	refused(api.Query{Clauses: []api.Clause{{Kind: api.ClauseReturn}}}, "no item")
	wrongFirst, last := clauseOf(t, "DELETE nobody"), clauseOf(t, "RETURN 1")
	for flaw, e := range refusedExprs() {
		for place, c := range clausesOf(e) {
			refused(api.Query{Clauses: []api.Clause{c}}, flaw+" in "+place)
			refused(api.Query{Clauses: []api.Clause{wrongFirst, last, c}}, flaw+" in "+place+" behind what is wrong else")
		}
	}
}
