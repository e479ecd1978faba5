package query_test

import (
	"maps"
	"reflect"
	"slices"
	"strings"
	"testing"

	"lattice/api"
	"lattice/clauses"
	"lattice/graph"
	"lattice/query"
	"lattice/sema"
	"lattice/syntax"
	"lattice/value"
	"lattice/words"
)

// P10.3, and P10.1 and P10.2 on queries by chance.

// meant is what a query means, as the chapter's words say it.
func meant(t *testing.T, a api.Graph, q api.Query, params ...api.Param) (api.Answer, []api.Frame, api.Errno) {
	t.Helper()
	g, no := graph.Make(a)
	if no != api.OK {
		t.Fatal(no)
	}
	f := clauses.Start()
	var l []api.Frame
	for _, c := range q.Clauses {
		if f, no = clauses.Do(g, f, c, params...); no != api.OK {
			return api.Answer{}, nil, no
		}
		l = append(l, f)
	}
	answer := api.Answer{Graph: g.Tell()}
	if q.Clauses[len(q.Clauses)-1].Kind == api.ClauseReturn {
		for _, v := range f.Vars {
			answer.Table.Columns = append(answer.Table.Columns, v.Name)
		}
		answer.Table.Rows = f.Rows
	}
	return answer, l, api.OK
}

// namesOf are the names behind each $ of a query's text, rising.
func namesOf(t *testing.T, text string) []string {
	t.Helper()
	l, at, no := words.Lex(text)
	if no != api.OK {
		t.Fatalf("%s: %v at %d", text, no, at)
	}
	names := map[string]struct{}{}
	for i, w := range l {
		if w.Kind == api.WordSign && w.Text == "$" {
			names[l[i+1].Text] = struct{}{}
		}
	}
	return slices.Sorted(maps.Keys(names))
}

// alike holds two answers against each other.
func alike(a, b api.Answer, one, other api.Errno) bool {
	return one == other && (one != api.OK || query.Same(a.Table, b.Table) && graph.Same(a.Graph, b.Graph))
}

// withAll is a query with a WITH of all variables more, ahead of the clause with that number; false, if there are no variables there.
func withAll(t *testing.T, q api.Query, at int) (api.Query, bool) {
	t.Helper()
	shape, _, no := sema.Check(q)
	if no != api.OK {
		t.Fatal(no)
	}
	if at == 0 || len(shape.Behind[at-1]) == 0 {
		return q, false
	}
	c := api.Clause{Kind: api.ClauseWith}
	for _, v := range shape.Behind[at-1] {
		c.Items = append(c.Items, api.Item{Expr: api.Expr{Kind: api.ExprVar, Name: v.Name}})
	}
	return api.Query{Clauses: slices.Insert(slices.Clone(q.Clauses), at, c)}, true
}

func TestLawsOnQueriesByChance(t *testing.T) {
	c := by(10, 3)
	count := map[string]int{}
	for range 4000 {
		g, params, text := c.graph(), c.params(), c.text(t)
		q := read(t, text)
		a, no := run(t, g, text, params...)
		want, frames, other := meant(t, g, q, params...)
		if !alike(a, want, no, other) {
			t.Fatalf("%s: %v, not %v; %s, not %s", text, no, other, told(a.Table), told(want.Table))
		}
		got, _ := query.Frames(g, q, params...)
		if !slices.EqualFunc(got, frames, clauses.Same) {
			t.Fatalf("%s: frames", text)
		}
		tally(count, q, a, no)
		holdNames(t, g, q, a, no, params)
		holdPrinted(t, g, q, a, no, params)
		if more, is := withAll(t, q, c.IntN(len(q.Clauses))); is {
			b, other := runQuery(t, g, more, params...)
			if !alike(a, b, no, other) {
				t.Fatalf("%s: a WITH more: %v, not %v; %s, not %s", text, other, no, told(b.Table), told(a.Table))
			}
			count["with"]++
		}
		if t.Failed() {
			t.FailNow()
		}
	}
	for name, least := range map[string]int{"OK": 3000, "wrong": 300, "attached": 25, "many": 25, "late": 200, "rows": 400, "no return": 800, "written": 1000, "with": 2000} {
		if count[name] < least {
			t.Errorf("%s: %d", name, count[name])
		}
	}
}

// tally counts what came of queries, so that all of it comes often.
func tally(count map[string]int, q api.Query, a api.Answer, no api.Errno) {
	count[map[api.Errno]string{api.OK: "OK", api.ErrWrong: "wrong", api.ErrAttached: "attached", api.ErrMany: "many"}[no]]++
	writes := false
	for _, c := range q.Clauses[:len(q.Clauses)-1] {
		writes = writes || c.Kind >= api.ClauseCreate && c.Kind <= api.ClauseDelete
	}
	if writes && no != api.OK {
		count["late"]++
	}
	if writes && no == api.OK {
		count["written"]++
	}
	if len(a.Table.Rows) > 1 {
		count["rows"]++
	}
	if no == api.OK && len(a.Table.Columns) == 0 {
		count["no return"]++
	}
}

// holdNames holds what a query's parameters are: without one of them it is ErrParam; those that it does not name change nothing, whatever they are.
func holdNames(t *testing.T, g api.Graph, q api.Query, a api.Answer, no api.Errno, params []api.Param) {
	t.Helper()
	text, _ := syntax.Print(q)
	names := query.Params(q)
	if !slices.Equal(names, namesOf(t, text)) {
		t.Errorf("%s: %q", text, names)
	}
	needed := slices.DeleteFunc(slices.Clone(params), func(p api.Param) bool { return !slices.Contains(names, p.Name) })
	b, other := query.Run(g, q, needed...)
	if !alike(a, b, no, other) {
		t.Errorf("%s: %v without what it does not name", text, other)
	}
	more := append(slices.Clone(needed), param("more", value.Null()), param("n1", node(0)), param("k", nested(9, value.Int(1))))
	if b, other = query.Run(g, q, more...); !alike(a, b, no, other) {
		t.Errorf("%s: %v with what it does not name", text, other)
	}
	for i := range needed {
		if _, other = query.Run(g, q, slices.Delete(slices.Clone(needed), i, i+1)...); other != api.ErrParam {
			t.Errorf("%s: %v without %s", text, other, needed[i].Name)
		}
	}
}

// holdPrinted holds that a query told by layer 4's Print means the same.
func holdPrinted(t *testing.T, g api.Graph, q api.Query, a api.Answer, no api.Errno, params []api.Param) {
	t.Helper()
	text, _ := syntax.Print(q)
	b, other := query.Text(g, text, params...)
	if !alike(a, b, no, other) {
		t.Errorf("%s: printed %v, not %v; %s, not %s", text, other, no, told(b.Table), told(a.Table))
	}
}

// The laws on queries with every clause, by hand.
func TestLaws(t *testing.T) {
	params := []api.Param{param("i", value.Int(1)), param("l", value.List(value.Int(1), value.Int(2)))}
	for _, text := range []string{
		"match (a:A) where a.k>=$i return a.k as x, count(*) order by x desc",
		"MATCH (a)-[r:T]->(b) WITH a, b AS c, r WHERE r.w > 0 OPTIONAL MATCH (c)-[s:U]->(c) RETURN a, c, r, s",
		"UNWIND $l AS x MATCH (a {k: x}) SET a.z = x + $i REMOVE a:A WITH DISTINCT a ORDER BY a.z DESC LIMIT 2 RETURN a.z, labels(a)",
		"UNWIND $l AS x CREATE (a:C {k: x})-[r:W {k: $i}]->(b) WITH a, r, b, x DELETE r RETURN a, r, b, x",
		"MATCH (a) DETACH DELETE a WITH count(*) AS n CREATE (b {k: n}) CREATE (b)-[:T]->(b)",
		"MATCH (a:A) CREATE (a)-[r:T]->(b) WITH a, collect(r) AS l UNWIND l AS r RETURN a, r, size(l)",
		"MATCH (a:B) CREATE (c {k: a.k}) WITH c.k AS k RETURN 1 / (k - $i)",
		"MATCH (a:B) SET a.k = a.k + $i DELETE a",
		"RETURN -1 - -$i, - - 1, NOT true AND false OR null, 'it\\'s' + \"\\u00e9\\n\", [1, [$l]][1][0][0], {`a b`: 1}.`a b`, CASE WHEN true THEN 1 END",
	} {
		q := read(t, text)
		a, no := run(t, world(), text, params...)
		if early(no) {
			t.Fatalf("%s: %v", text, no)
		}
		holdNames(t, world(), q, a, no, params)
		holdPrinted(t, world(), q, a, no, params)
		for at := range q.Clauses {
			if more, is := withAll(t, q, at); is {
				if b, other := runQuery(t, world(), more, params...); !alike(a, b, no, other) {
					t.Errorf("%s: WITH at %d: %v, %s, not %s", text, at, other, told(b.Table), told(a.Table))
				}
			}
		}
	}
}

// A query that does not write leaves the graph as it is, numbers of what is there no more with it.
func TestReadingLeavesTheGraph(t *testing.T) {
	for _, text := range []string{"RETURN 1", "MATCH (a)-[r]-(b) RETURN a, r, b", "OPTIONAL MATCH (a:Z) WITH a UNWIND [1, 2] AS x RETURN collect(a), x", "MATCH (a) WITH a.k AS k WHERE k > 1 RETURN DISTINCT k"} {
		a, no := run(t, world(), text)
		if no != api.OK || !reflect.DeepEqual(a.Graph, world()) {
			t.Errorf("%s: %v, %s", text, no, drawn(a.Graph))
		}
	}
}

// One query behind the other, each on the graph that the one ahead left, is as one query, where nothing is kept in the frame.
func TestQueriesOneBehindTheOther(t *testing.T) {
	g := empty()
	for _, text := range []string{"CREATE (:A {k: 1})", "CREATE (:A {k: 2}), (:B)", "MATCH (a:A), (b:B) CREATE (b)-[:T]->(a)", "MATCH (a {k: 1}) DETACH DELETE a", "CREATE (:A {k: 3})"} {
		a, no := run(t, g, text)
		if no != api.OK {
			t.Fatal(text, no)
		}
		g = a.Graph
	}
	if want := "1:A {k: 2}; 2:B; 3:A {k: 3}; r1 2-T->1; 4 2"; drawn(g) != want {
		t.Errorf("%s, not %s", drawn(g), want)
	}
	hold(t, empty(), nil, means{"CREATE (:A {k: 1}) CREATE (:A {k: 2}), (:B) WITH 1 AS x MATCH (a:A), (b:B) CREATE (b)-[:T]->(a) WITH DISTINCT 1 AS x MATCH (a {k: 1}) DETACH DELETE a CREATE (:A {k: 3})", "", drawn(g)})
	if strings.Contains(drawn(g), "0:A") {
		t.Error("it is still there")
	}
}
