package sema_test

import (
	"slices"
	"testing"

	"lattice/api"
	"lattice/sema"
)

// P6.1: Clause.

func TestClausesWithVariablesAhead(t *testing.T) {
	for _, x := range []struct {
		text, ahead, behind string
		e                   api.Errno
	}{
		{"MATCH ()", "", "", api.OK},
		{"MATCH (a)", "", "n-a", api.OK},
		{"MATCH (a)", "n-a", "n-a", api.OK},
		{"MATCH (a)", "x n-a y", "x n-a y", api.OK},
		{"MATCH (a)", "a", "", api.ErrKind},
		{"MATCH (a)", "r-a", "", api.ErrKind},
		{"MATCH (b)-[r]-(a), (c)--(b)", "x n-a", "x n-a n-b r-r n-c", api.OK},
		{"MATCH ()-[r]-()", "r-r", "", api.ErrAgain},
		{"MATCH ()-[r]-()", "n-r", "", api.ErrAgain},
		{"MATCH ({k: x.k, l: [y]})-[{m: $p}]-()", "x y", "x y", api.OK},
		{"MATCH (a {k: b.k})", "n-b", "n-b n-a", api.OK},
		{"OPTIONAL MATCH (a) WHERE a.k = x OR b:L", "x n-b", "x n-b n-a", api.OK},
		{"MATCH (a)-[r]-(b) WHERE id(a) < id(b) AND r.k = 1", "", "n-a r-r n-b", api.OK},
		{"UNWIND [x] AS y", "x", "x y", api.OK},
		{"UNWIND [x] AS x", "x", "", api.ErrAgain},
		{"UNWIND n AS m", "n-n", "n-n m", api.OK},
		{"WITH n, r, x", "x r-r n-n y", "n-n r-r x", api.OK},
		{"WITH n AS x, x AS n", "x n-n", "n-x n", api.OK},
		{"WITH n AS m ORDER BY m.k LIMIT 1 WHERE m:L", "n-n", "n-m", api.OK},
		{"WITH count(*) AS c, n", "n-n", "c n-n", api.OK},
		{"WITH DISTINCT n.k AS k", "n-n", "k", api.OK},
		{"WITH x", "", "", api.ErrVar},
		{"WITH n.k", "n-n", "", api.ErrName},
		{"RETURN n, n.k, x", "x n-n", "n-n n.k x", api.OK},
		{"RETURN n AS x, r AS n, x AS r", "x n-n r-r", "n-x r-n r", api.OK},
		{"RETURN n, n", "n-n", "", api.ErrAgain},
		{"RETURN count(n)", "n-n", "count(n)", api.OK},
		{"RETURN count()", "n-n", "", api.ErrFunction},
		{"RETURN collect(n, n)", "n-n", "", api.ErrFunction},
		{"WITH sum() AS s", "n-n", "", api.ErrFunction},
		{"RETURN [count()]", "n-n", "", api.ErrAggregate},
		{"WITH n WHERE collect(n, n)", "n-n", "", api.ErrAggregate},
		{"SET n.k = max()", "n-n", "", api.ErrAggregate},
		{"CREATE (a)-[r:T]->(b)", "n-b x", "n-b x n-a r-r", api.OK},
		{"CREATE (b)-[:T {k: x, l: b.k}]->(a:A:B {k: x})", "n-b x", "n-b x n-a", api.OK},
		{"CREATE (:A), (:A {}), ()", "", "", api.OK},
		{"CREATE (a:A), (a)-[:T]->(a)", "", "n-a", api.OK},
		{"CREATE (a:A)", "n-a", "", api.ErrPattern},
		{"CREATE (a)-[:T]->()", "r-a", "", api.ErrKind},
		{"CREATE ()-[r:T]->()", "r-r", "", api.ErrAgain},
		{"SET n.k = x, r.k = n.k, n:L", "n-n r-r x", "n-n r-r x", api.OK},
		{"SET x.k = 1", "x", "", api.ErrKind},
		{"SET r:L", "r-r", "", api.ErrKind},
		{"REMOVE n.k, r.k, n:L", "n-n r-r", "n-n r-r", api.OK},
		{"REMOVE r:L", "r-r", "", api.ErrKind},
		{"DELETE n, r, n", "n-n r-r x", "n-n r-r x", api.OK},
		{"DETACH DELETE x", "x", "", api.ErrKind},
		{"DELETE y", "x", "", api.ErrVar},
	} {
		l, e := sema.Clause(clauseOf(t, x.text), vars(x.ahead)...)
		if e != x.e || !slices.Equal(l, vars(x.behind)) {
			t.Errorf("%s with %s: %v %v", x.text, x.ahead, l, e)
		}
	}
}

// A clause's place in a query is not asked: here each stands alone, and those behind RETURN too.
func TestClausesInNoPlace(t *testing.T) {
	for _, s := range []string{"MATCH (a)", "UNWIND [1] AS x", "WITH 1 AS x", "RETURN 1"} {
		if _, e := sema.Clause(clauseOf(t, s)); e != api.OK {
			t.Errorf("%s: %v", s, e)
		}
	}
}

// Of variables that are handed in, and that no query could have, only what the chapter says of them is asked.
func TestClausesWithVariablesThatStandTwice(t *testing.T) {
	twice := vars("n-a a r-r n-r")
	for s, want := range map[string]api.Errno{
		"MATCH (a)": api.OK, "MATCH (r)": api.ErrKind, "SET a:L": api.OK, "SET r:L": api.ErrKind, "SET r.k = 1": api.OK, "DELETE a, r": api.OK, "MATCH ()-[a]-()": api.ErrAgain,
	} {
		l, e := sema.Clause(clauseOf(t, s), twice...)
		if e != want || e == api.OK && !slices.Equal(l, twice) {
			t.Errorf("%s: %v %v", s, l, e)
		}
	}
	if l, e := sema.Clause(clauseOf(t, "WITH r AS b, a"), twice...); e != api.OK || !slices.Equal(l, vars("r-b n-a")) {
		t.Error(l, e)
	}
	odd := []api.Var{{Name: "", Kind: api.VarRel}, {Name: "o", Kind: 7}, {Name: "u", Kind: -1}}
	for s, want := range map[string]api.Errno{
		"MATCH ()-[]-()": api.OK, "CREATE ({})-[:T]->()": api.OK, "MATCH (o)": api.ErrKind, "MATCH (u)": api.ErrKind, "CREATE (o)": api.ErrKind, "SET o.k = 1": api.ErrKind, "REMOVE u:L": api.ErrKind,
	} {
		l, e := sema.Clause(clauseOf(t, s), odd...)
		if e != want || e == api.OK && !slices.Equal(l, odd) {
			t.Errorf("%s: %v %v", s, l, e)
		}
	}
}

func TestClausesThatLayer4Refuses(t *testing.T) {
	ahead := vars("n-n x")
	refused := func(c api.Clause, what string) {
		t.Helper()
		if l, e := sema.Clause(c, ahead...); len(l) > 0 || e != api.ErrArg {
			t.Errorf("%s: %v %v", what, l, e)
		}
	}
	for flaw, e := range refusedExprs() {
		for place, c := range clausesOf(e) {
			refused(c, flaw+" in "+place)
		}
	}
	for place, c := range clausesOf(number(1)) {
		if _, e := sema.Clause(c, ahead...); e != api.OK {
			t.Errorf("%s: %v", place, e)
		}
		other := c
		other.Kind = (c.Kind + 4) % 8
		refused(other, place+" as of another kind")
	}
	for what, c := range map[string]api.Clause{
		"nothing": {}, "no kind below": {Kind: -1}, "no kind above": {Kind: api.ClauseReturn + 1}, "no items": {Kind: api.ClauseWith}, "no sets": {Kind: api.ClauseSet}, "no variables": {Kind: api.ClauseDelete}, "no paths": {Kind: api.ClauseCreate},
		"no name":          {Kind: api.ClauseUnwind},
		"no such set":      {Kind: api.ClauseSet, Sets: []api.SetItem{{Kind: 2, Var: "n", Key: "k"}}},
		"a value at once":  {Kind: api.ClauseRemove, Sets: []api.SetItem{{Var: "n", Key: "k", Value: number(1)}}},
		"no such Dir":      {Kind: api.ClauseMatch, Paths: []api.Path{{Nodes: make([]api.NodePat, 2), Rels: []api.RelPat{{Dir: 2}}}}},
		"one node too few": {Kind: api.ClauseMatch, Paths: []api.Path{{Nodes: make([]api.NodePat, 1), Rels: make([]api.RelPat, 1)}}},
		"no map":           {Kind: api.ClauseMatch, Paths: []api.Path{{Nodes: []api.NodePat{{Has: true}}}}},
		"a hidden Where":   {Kind: api.ClauseMatch, Paths: []api.Path{{Nodes: make([]api.NodePat, 1)}}, Where: number(1)},
	} {
		refused(c, what)
	}
}
