package clauses_test

import (
	"testing"

	"lattice/api"
	"lattice/clauses"
	"lattice/graph"
	"lattice/value"
)

// P9.1: the clauses that write.

// pair is two nodes with a relationship: 0:A {k: 1}; 1 {k: 2}; r0 0-T->1 {w: 3}. Node 2 and relationship 1 are there no more.
func pair(t *testing.T) *graph.Graph {
	return made(t, api.Graph{
		Nodes:    []api.Node{{ID: 0, Labels: []string{"A"}, Props: []api.Prop{prop("k", value.Int(1))}}, {ID: 1, Props: []api.Prop{prop("k", value.Int(2))}}},
		Rels:     []api.Rel{{ID: 0, From: 0, To: 1, Type: "T", Props: []api.Prop{prop("w", value.Int(3))}}},
		NextNode: 3, NextRel: 2,
	})
}

const pairDrawn = "0:A {k: 1}; 1 {k: 2}; r0 0-T->1 {w: 3}; 3 2"

func TestCreate(t *testing.T) {
	holdGraphs(t, empty, clauses.Start(),
		draws{"CREATE (a)", "n0;", "0; 1 0"},
		draws{"CREATE ()", ";", "0; 1 0"},
		draws{"CREATE (a:B:A:B {l: 'x', k: 1})", "n0;", "0:A:B {k: 1, l: 'x'}; 1 0"},
		draws{"CREATE (a {k: null, l: [1, 2], m: [], n: true})", "n0;", "0 {l: [1, 2], m: [], n: true}; 1 0"},
		draws{"CREATE (a {})", "n0;", "0; 1 0"},
		draws{"CREATE (a)-[r:T]->(b)", "n0 r0 n1;", "0; 1; r0 0-T->1; 2 1"},
		draws{"CREATE (a)<-[r:T]-(b)", "n0 r0 n1;", "0; 1; r0 1-T->0; 2 1"},
		draws{"CREATE ()-[:T {w: 1, v: null}]->()<-[:U]-()", ";", "0; 1; 2; r0 0-T->1 {w: 1}; r1 2-U->1; 3 2"},
		draws{"CREATE (a:A)-[:T]->(b), (c)-[:U]->(d)", "n0 n1 n2 n3;", "0:A; 1; 2; 3; r0 0-T->1; r1 2-U->3; 4 2"},
		draws{"CREATE (a), (b), (c)", "n0 n1 n2;", "0; 1; 2; 3 0"},
		// A Var that was made ahead, in the same path or in another one.
		draws{"CREATE (a)-[r:T]->(a)", "n0 r0;", "0; r0 0-T->0; 1 1"},
		draws{"CREATE (a)-[:T]->(b)-[:T]->(a)", "n0 n1;", "0; 1; r0 0-T->1; r1 1-T->0; 2 2"},
		draws{"CREATE (a:A), (b), (b)-[:T]->(a)", "n0 n1;", "0:A; 1; r0 1-T->0; 2 1"},
		draws{"CREATE (a)-[:T]->(b), (c)-[:T]->(b), (a)", "n0 n1 n2;", "0; 1; 2; r0 0-T->1; r1 2-T->1; 3 2"},
		// Row by row.
		draws{"UNWIND [2, 1] AS x CREATE (a {k: x})-[r:T {w: x + 1}]->(b)", "1 n0 r0 n1;2 n2 r1 n3;", "0 {k: 1}; 1; 2 {k: 2}; 3; r0 0-T->1 {w: 2}; r1 2-T->3 {w: 3}; 4 2"},
		draws{"UNWIND [1, 1] AS x CREATE (a)-[:T]->(a), (b)", "1 n0 n1;1 n2 n3;", "0; 1; 2; 3; r0 0-T->0; r1 2-T->2; 4 2"},
		draws{"UNWIND [] AS x CREATE (a {k: 1 / 0})", "", "0 0"},
		draws{"UNWIND null AS x CREATE (a)-[r:T]->(b)", "", "0 0"},
	)
	// Rows are gone through as they stand.
	holdGraphs(t, empty, frame("x", ints(3), ints(1), ints(2), ints(1)),
		draws{"CREATE (a {k: x})", "1 n1;1 n3;2 n2;3 n0;", "0 {k: 3}; 1 {k: 1}; 2 {k: 2}; 3 {k: 1}; 4 0"},
	)
}

func TestCreateOnVariables(t *testing.T) {
	both := frame("n:a n:b x", row(node(1), node(0), value.Int(7)))
	holdGraphs(t, pair, both,
		draws{"CREATE (a)-[r:U]->(b)", "n1 n0 7 r2;", "0:A {k: 1}; 1 {k: 2}; r0 0-T->1 {w: 3}; r2 1-U->0; 3 3"},
		draws{"CREATE (a)<-[r:U]-(c {k: x})", "n1 n0 7 r2 n3;", "0:A {k: 1}; 1 {k: 2}; 3 {k: 7}; r0 0-T->1 {w: 3}; r2 3-U->1; 4 3"},
		draws{"CREATE (a)-[:U {w: a.k}]->(a)", "n1 n0 7;", "0:A {k: 1}; 1 {k: 2}; r0 0-T->1 {w: 3}; r2 1-U->1 {w: 2}; 3 3"},
		draws{"CREATE (a), (b)", "n1 n0 7;", pairDrawn},
		draws{"CREATE (c {k: a.k + b.k})", "n1 n0 7 n3;", "0:A {k: 1}; 1 {k: 2}; 3 {k: 3}; r0 0-T->1 {w: 3}; 4 2"},
	)
	// Nothing goes wrong, also where no relationship is made.
	nobody := frame("n:a n:b", row(node(0), node(1)), row(node(0), value.Null()))
	holdGraphs(t, pair, nobody,
		draws{"CREATE (a)-[:U]->(b)", "!wrong", pairDrawn},
		draws{"CREATE (b)", "!wrong", pairDrawn},
		draws{"CREATE (c), (b)", "!wrong", pairDrawn},
		draws{"CREATE (c)-[:U]->(a)", "n0 n1 n3;n0 null n4;", "0:A {k: 1}; 1 {k: 2}; 3; 4; r0 0-T->1 {w: 3}; r2 3-U->0; r3 4-U->0; 5 4"},
		draws{"CREATE (c {k: b.k})", "n0 n1 n3;n0 null n4;", "0:A {k: 1}; 1 {k: 2}; 3 {k: 2}; 4; r0 0-T->1 {w: 3}; 5 2"},
	)
	// A node that is there no more can have no relationship.
	holdGraphs(t, pair, frame("n:a n:b", row(node(0), node(1)), row(node(0), node(2))),
		draws{"CREATE (a)-[:U]->(b)", "!wrong", pairDrawn},
		draws{"CREATE (c)<-[:U]-(b)", "!wrong", pairDrawn},
		draws{"CREATE (b)", "n0 n1;n0 n2;", pairDrawn},
	)
}

// A variable's node must be there when its relationship is made, not ahead of the clause: it may be one that this path, another one or an earlier row has made.
func TestCreateOnNodesItMade(t *testing.T) {
	none := func(t *testing.T) *graph.Graph { return made(t, api.Graph{NextNode: 3}) }
	holdGraphs(t, none, frame("n:a", row(node(3))),
		draws{"CREATE ()<-[:U]-(a)", "n3;", "3; r0 3-U->3; 4 1"},
		draws{"CREATE (a)-[:U]->()", "n3;", "3; r0 3-U->3; 4 1"},
		draws{"CREATE (a)-[r:U]->(b)", "n3 r0 n3;", "3; r0 3-U->3; 4 1"},
		draws{"CREATE (), (a)-[:U]->(a)", "n3;", "3; r0 3-U->3; 4 1"},
		draws{"CREATE (a)-[:U]->(a), ()", "!wrong", "3 0"},
		draws{"CREATE (a)-[:U]->(a)", "!wrong", "3 0"},
	)
	holdGraphs(t, none, frame("n:a", row(node(4))),
		draws{"CREATE ()<-[:U]-(a)", "!wrong", "3 0"},
		draws{"CREATE ()-[:U]->(a)", "!wrong", "3 0"},
		draws{"CREATE ()-[:U]->()-[:U]->(a)", "n4;", "3; 4; r0 3-U->4; r1 4-U->4; 5 2"},
		draws{"CREATE (b), (a)<-[:U]-(b)-[:U]->()", "n4 n3;", "3; 4; r0 3-U->4; r1 3-U->4; 5 2"},
	)
	one := func(t *testing.T) *graph.Graph { return made(t, api.Graph{Nodes: make([]api.Node, 1), NextNode: 3}) }
	holdGraphs(t, one, frame("n:a", row(node(0)), row(node(3))),
		draws{"CREATE ()<-[:U]-(a)", "n0;n3;", "0; 3; 4; r0 0-U->3; r1 3-U->4; 5 2"},
		draws{"CREATE (a)-[:U]->(a)", "!wrong", "0; 3 0"},
		draws{"CREATE (a)-[:U]->(a), ()", "n0;n3;", "0; 3; 4; r0 0-U->0; r1 3-U->3; 5 2"},
	)
	// Rows are gone through as they stand: what is made later does not count.
	holdGraphs(t, one, frame("n:a", row(node(4)), row(node(0))),
		draws{"CREATE ()<-[:U]-(a)", "!wrong", "0; 3 0"},
	)
	holdGraphs(t, one, frame("n:a", row(node(0)), row(node(9))),
		draws{"CREATE ()<-[:U]-(a)", "!wrong", "0; 3 0"},
	)
	// Its labels and properties are still those ahead of the clause.
	holdGraphs(t, one, frame("n:a", row(node(3))),
		draws{"CREATE (b:L {k: 1}), (a)-[:U {v: a.k, w: a:L}]->()", "n3 n3;", "0; 3:L {k: 1}; 4; r0 3-U->4 {w: false}; 5 1"},
	)
}

// What Props are worth hangs on the graph ahead of the clause, not on what earlier rows, or parts, have made.
func TestCreateAheadOfTheClause(t *testing.T) {
	holdGraphs(t, pair, frame("n:a n:new", row(node(0), node(3)), row(node(0), node(3))),
		draws{"CREATE (b:L {k: 5}), ({s: new.k, t: keys(new), u: labels(new)})", "n0 n3 n3;n0 n3 n5;", "0:A {k: 1}; 1 {k: 2}; 3:L {k: 5}; 4 {t: [], u: []}; 5:L {k: 5}; 6 {t: [], u: []}; r0 0-T->1 {w: 3}; 7 2"},
		draws{"CREATE (a)-[:U {s: type(last([a, null])), t: new:L}]->(b:L)", "n0 n3 n3;n0 n3 n4;", "0:A {k: 1}; 1 {k: 2}; 3:L; 4:L; r0 0-T->1 {w: 3}; r2 0-U->3 {t: false}; r3 0-U->4 {t: false}; 5 4"},
	)
}

func TestCreateGoesWrong(t *testing.T) {
	f := frame("x n:a", row(value.Int(1), node(0)), row(value.Int(0), node(1)))
	for _, s := range []string{
		"CREATE (b {k: 1 / x})", "CREATE (b)-[:U {k: 1 / x}]->(a)", "CREATE (b {k: 1}), (c {k: 1 / x})", "CREATE (b {k: $none})",
		"CREATE (b {k: {}})", "CREATE (b {k: a})", "CREATE (b {k: [1, 'a']})", "CREATE (b {k: [[1]]})", "CREATE (b {k: [null]})", "CREATE (b {k: [a]})",
		"CREATE (b)-[:U {k: {l: 1}}]->(c)", "CREATE (b)-[:U {k: 1, l: [true, 1]}]->(c)",
		"CREATE (b {k: CASE WHEN x = 0 THEN {} ELSE 1 END})",
		"CREATE (b {k: range(1, 65537)})",
	} {
		holdGraphs(t, pair, f, draws{s, "!wrong", pairDrawn})
	}
}

func TestSet(t *testing.T) {
	all := frame("n:a n:b r:r x", row(node(0), node(1), rel(0), value.Int(7)))
	holdGraphs(t, pair, all,
		draws{"SET a.k = 5", "n0 n1 r0 7;", "0:A {k: 5}; 1 {k: 2}; r0 0-T->1 {w: 3}; 3 2"},
		draws{"SET a.l = x + 1, b.l = 'y', r.l = [1]", "n0 n1 r0 7;", "0:A {k: 1, l: 8}; 1 {k: 2, l: 'y'}; r0 0-T->1 {l: [1], w: 3}; 3 2"},
		draws{"SET a:B, a:A, b:C", "n0 n1 r0 7;", "0:A:B {k: 1}; 1:C {k: 2}; r0 0-T->1 {w: 3}; 3 2"},
		draws{"SET a.k = null, r.w = null, b.none = null", "n0 n1 r0 7;", "0:A; 1 {k: 2}; r0 0-T->1; 3 2"},
		draws{"SET a.k = a.none", "n0 n1 r0 7;", "0:A; 1 {k: 2}; r0 0-T->1 {w: 3}; 3 2"},
		// Item by item: what is set last counts; but all values are those ahead of the clause.
		draws{"SET a.k = 5, a.k = 6", "n0 n1 r0 7;", "0:A {k: 6}; 1 {k: 2}; r0 0-T->1 {w: 3}; 3 2"},
		draws{"SET a.k = b.k, b.k = a.k", "n0 n1 r0 7;", "0:A {k: 2}; 1 {k: 1}; r0 0-T->1 {w: 3}; 3 2"},
		draws{"SET a.k = a.k + 1, a.k = a.k + 10, a:B, a.l = a:B", "n0 n1 r0 7;", "0:A:B {k: 11, l: false}; 1 {k: 2}; r0 0-T->1 {w: 3}; 3 2"},
		draws{"SET a.k = null, b.k = a.k, a.l = keys(a)", "n0 n1 r0 7;", "0:A {l: ['k']}; 1 {k: 1}; r0 0-T->1 {w: 3}; 3 2"},
	)
	// Row by row, as they stand.
	many := frame("n:a x", row(node(1), value.Int(3)), row(node(0), value.Int(2)), row(node(1), value.Int(1)))
	holdGraphs(t, pair, many,
		draws{"SET a.k = x", "n0 2;n1 1;n1 3;", "0:A {k: 2}; 1 {k: 1}; r0 0-T->1 {w: 3}; 3 2"},
		draws{"SET a.k = a.k + x", "n0 2;n1 1;n1 3;", "0:A {k: 3}; 1 {k: 3}; r0 0-T->1 {w: 3}; 3 2"},
	)
	holdGraphs(t, pair, frame("n:a"), draws{"SET a.k = 1 / 0", "", pairDrawn}, draws{"SET a.k = {}", "", pairDrawn}, draws{"SET a:B", "", pairDrawn})
	g := pair(t)
	if got := told(run(t, g, all, "SET a.k = $p", param("p", value.String("z")))) + drawn(g); got != "n0 n1 r0 7;0:A {k: 'z'}; 1 {k: 2}; r0 0-T->1 {w: 3}; 3 2" {
		t.Error(got)
	}
}

// Of nothing, and of what is there no more, nothing is done; but values are asked for all rows, and, unless it is of nothing, must be storable.
func TestSetOfNothing(t *testing.T) {
	null := frame("n:a r:r", row(value.Null(), value.Null()))
	holdGraphs(t, pair, null,
		draws{"SET a.k = 5, r.w = 5, a:B", "null null;", pairDrawn},
		draws{"SET a.k = {}, r.w = [1, 'a']", "null null;", pairDrawn},
		draws{"SET a.k = a.k + 1", "null null;", pairDrawn},
		draws{"SET a.k = 1 / 0", "!wrong", pairDrawn},
		draws{"SET r.k = $none", "!wrong", pairDrawn},
		draws{"REMOVE a.k, r.w, a:A", "null null;", pairDrawn},
	)
	lost := frame("n:a r:r", row(node(2), rel(1)))
	holdGraphs(t, pair, lost,
		draws{"SET a.k = 5, r.w = 5, a:B", "n2 r1;", pairDrawn},
		draws{"SET a.k = null, r.w = null", "n2 r1;", pairDrawn},
		draws{"SET a.k = {}", "!wrong", pairDrawn},
		draws{"SET r.w = [[1]]", "!wrong", pairDrawn},
		draws{"SET a.k = 1 / 0", "!wrong", pairDrawn},
		draws{"REMOVE a.k, r.w, a:A", "n2 r1;", pairDrawn},
	)
	// Those of other rows are set.
	holdGraphs(t, pair, frame("n:a", row(value.Null()), row(node(2)), row(node(1))), draws{"SET a.k = 5, a:B", "n1;n2;null;", "0:A {k: 1}; 1:B {k: 5}; r0 0-T->1 {w: 3}; 3 2"})
	// A node and a relationship of one number are not taken for each other.
	holdGraphs(t, pair, frame("n:a r:r", row(node(1), rel(1))), draws{"SET r.k = 9", "n1 r1;", pairDrawn})
}

func TestSetGoesWrong(t *testing.T) {
	f := frame("n:a r:r x", row(node(1), rel(0), value.Int(1)), row(node(0), rel(0), value.Int(0)))
	for _, s := range []string{
		"SET a.k = 1 / x", "SET a.k = 5, a.l = 1 / x", "SET a:B, a.k = 1 / x", "SET a.k = $none", "SET a.k = 5, r.w = 1 + 'a'",
		"SET a.k = {}", "SET a.k = a", "SET a.k = r", "SET a.k = [a]", "SET a.k = [1, true]", "SET r.w = [null]", "SET a.k = 5, r.w = {l: 1}",
		"SET a.k = CASE WHEN x = 0 THEN {} ELSE x END",
		"SET a.k = CASE WHEN x = 0 THEN [[]] ELSE x END, r.w = 5",
	} {
		holdGraphs(t, pair, f, draws{s, "!wrong", pairDrawn})
	}
}

func TestRemove(t *testing.T) {
	f := frame("n:a n:b r:r", row(node(0), node(1), rel(0)))
	holdGraphs(t, pair, f,
		draws{"REMOVE a.k", "n0 n1 r0;", "0:A; 1 {k: 2}; r0 0-T->1 {w: 3}; 3 2"},
		draws{"REMOVE a.k, b.k, r.w, a:A", "n0 n1 r0;", "0; 1; r0 0-T->1; 3 2"},
		draws{"REMOVE a.none, a:None, b:A, r.k", "n0 n1 r0;", pairDrawn},
		draws{"REMOVE a.k, a.k, a:A, a:A", "n0 n1 r0;", "0; 1 {k: 2}; r0 0-T->1 {w: 3}; 3 2"},
		draws{"REMOVE a.k SET a.k = 1", "n0 n1 r0;", pairDrawn},
	)
	holdGraphs(t, pair, frame("n:a", row(node(1)), row(node(0)), row(node(1))), draws{"REMOVE a.k, a:A", "n0;n1;n1;", "0; 1; r0 0-T->1 {w: 3}; 3 2"})
	holdGraphs(t, pair, frame("n:a"), draws{"REMOVE a.k", "", pairDrawn})
}

func TestDelete(t *testing.T) {
	f := frame("n:a r:r n:b", row(node(0), rel(0), node(1)))
	holdGraphs(t, pair, f,
		draws{"DELETE a", "!attached", pairDrawn},
		draws{"DELETE b", "!attached", pairDrawn},
		draws{"DELETE a, b", "!attached", pairDrawn},
		draws{"DELETE r", "n0 null n1;", "0:A {k: 1}; 1 {k: 2}; 3 2"},
		draws{"DELETE a, r", "null null n1;", "1 {k: 2}; 3 2"},
		draws{"DELETE r, a", "null null n1;", "1 {k: 2}; 3 2"},
		draws{"DELETE b, r, a, a", "null null null;", "3 2"},
		draws{"DELETE r DELETE a", "null null n1;", "1 {k: 2}; 3 2"},
		draws{"DETACH DELETE a", "null null n1;", "1 {k: 2}; 3 2"},
		draws{"DETACH DELETE b", "n0 null null;", "0:A {k: 1}; 3 2"},
		draws{"DETACH DELETE a, b", "null null null;", "3 2"},
		draws{"DETACH DELETE r", "n0 null n1;", "0:A {k: 1}; 1 {k: 2}; 3 2"},
		draws{"DETACH DELETE a DETACH DELETE a, r DELETE a SET a.k = 1, a:B", "null null n1;", "1 {k: 2}; 3 2"},
	)
	holdGraphs(t, pair, frame("n:a r:r"), draws{"DELETE a, r", "", pairDrawn}, draws{"DETACH DELETE a", "", pairDrawn})
	// All rows together: a node may go ahead of the row that has its relationship.
	holdGraphs(t, pair, frame("n:a r:r", row(node(0), value.Null()), row(value.Null(), rel(0)), row(node(1), value.Null()), row(node(0), rel(0))),
		draws{"DELETE a, r", "null null;null null;null null;null null;", "3 2"},
		draws{"DELETE a", "!attached", pairDrawn},
		draws{"DETACH DELETE a", "null null;null null;null null;null null;", "3 2"},
		draws{"DELETE r", "n0 null;n0 null;n1 null;null null;", "0:A {k: 1}; 1 {k: 2}; 3 2"},
	)
	// A relationship from a node to itself.
	loop := func(t *testing.T) *graph.Graph {
		return made(t, api.Graph{Nodes: []api.Node{{}, {ID: 1}}, Rels: []api.Rel{{Type: "T"}, {ID: 1, From: 1, To: 0, Type: "T"}}, NextNode: 2, NextRel: 2})
	}
	holdGraphs(t, loop, frame("n:a r:r r:s n:b", row(node(0), rel(0), rel(1), node(1))),
		draws{"DELETE a", "!attached", "0; 1; r0 0-T->0; r1 1-T->0; 2 2"},
		draws{"DELETE a, r", "!attached", "0; 1; r0 0-T->0; r1 1-T->0; 2 2"},
		draws{"DELETE a, s", "!attached", "0; 1; r0 0-T->0; r1 1-T->0; 2 2"},
		draws{"DELETE r", "n0 null r1 n1;", "0; 1; r1 1-T->0; 2 2"},
		draws{"DELETE a, r, s", "null null null n1;", "1; 2 2"},
		draws{"DETACH DELETE a", "null null null n1;", "1; 2 2"},
		draws{"DETACH DELETE b", "n0 r0 null null;", "0; r0 0-T->0; 2 2"},
		draws{"DELETE b, s", "n0 r0 null null;", "0; r0 0-T->0; 2 2"},
	)
}

// Of nothing, and of what is there no more, nothing is done.
func TestDeleteOfNothing(t *testing.T) {
	holdGraphs(t, pair, frame("n:a r:r", row(value.Null(), value.Null())), draws{"DELETE a, r", "null null;", pairDrawn}, draws{"DETACH DELETE a", "null null;", pairDrawn})
	holdGraphs(t, pair, frame("n:a r:r x", row(node(2), rel(1), value.Int(1))), draws{"DELETE a, r", "null null 1;", pairDrawn}, draws{"DETACH DELETE a", "null r1 1;", pairDrawn})
	// A node and a relationship of one number are not taken for each other.
	holdGraphs(t, pair, frame("n:a r:r", row(node(1), rel(1))), draws{"DELETE r", "n1 null;", pairDrawn})
}

// What is gone is nothing wherever it stands in the frame: in other columns and rows, within lists and maps.
func TestDeletedWithin(t *testing.T) {
	m := api.Value{Kind: api.ValueMap, Keys: []string{"a", "b"}, List: []api.Value{value.List(node(0), rel(0)), entry("c", node(1))}}
	f := frame("n:a x", row(node(0), value.List(node(0), value.List(node(0), node(1)), rel(0), value.Int(0))), row(value.Null(), m), row(node(0), node(0)), row(value.Null(), rel(0)))
	holdGraphs(t, pair, f,
		draws{"DETACH DELETE a", "null {a: [null, null], b: {c: n1}};null [null, [null, n1], null, 0];null null;null null;", "1 {k: 2}; 3 2"},
		draws{"DELETE a", "!attached", pairDrawn},
	)
	g := frame("r:r x n:a", row(value.Null(), value.List(rel(0), node(0)), node(0)), row(rel(0), m, node(0)))
	holdGraphs(t, pair, g, draws{"DELETE r", "null {a: [n0, null], b: {c: n1}} n0;null [null, n0] n0;", "0:A {k: 1}; 1 {k: 2}; 3 2"})
	// Elements that stand within lists alone are not deleted.
	holdGraphs(t, pair, frame("r:r x", row(rel(0), value.List(node(1)))), draws{"DELETE r", "null [n1];", "0:A {k: 1}; 1 {k: 2}; 3 2"})
	// Rows are put in order anew.
	holdGraphs(t, plain3, frame("n:a n:b x", row(node(0), node(2), value.Int(1)), row(node(1), node(0), value.Int(2)), row(node(2), node(1), value.Int(3))),
		draws{"MATCH (a {k: 0}) DELETE a", "", "0; 1; 2; 3 0"},
		draws{"DELETE b", "null null 1;null null 2;null null 3;", "3 0"},
		draws{"WITH a, b, x ORDER BY x LIMIT 1 DELETE a", "null n2 1;", "1; 2; 3 0"},
	)
	holdGraphs(t, plain3, frame("n:a b", row(node(0), node(1)), row(value.Null(), node(0)), row(value.Null(), node(2))), draws{"DELETE a", "null n1;null n2;null null;", "1; 2; 3 0"})
}

func plain3(t *testing.T) *graph.Graph { return plain(t, 3) }

// Clauses one behind the other.
func TestMoreClauses(t *testing.T) {
	holdGraphs(t, empty, clauses.Start(),
		draws{"CREATE (a:A {k: 1})-[:T]->(b:A {k: 2}) WITH a MATCH (a)--(c) SET c.k = c.k + a.k RETURN a.k, c.k", "1 3;", "0:A {k: 1}; 1:A {k: 3}; r0 0-T->1; 2 1"},
		draws{"UNWIND range(1, 3) AS x CREATE (a {k: x}) WITH collect(a) AS l, max(x) AS m UNWIND l AS n RETURN n, n.k = m", "n0 false;n1 false;n2 true;", "0 {k: 1}; 1 {k: 2}; 2 {k: 3}; 3 0"},
		draws{"CREATE (a), (b) WITH a, b, [a, {k: b}] AS l DELETE a RETURN l, b", "[null, {k: n1}] n1;", "1; 2 0"},
		draws{"CREATE (a)-[r:T]->(b) DETACH DELETE a CREATE (b)-[s:U]->(c) RETURN a, r, s, c, b", "null null r1 n2 n1;", "1; 2; r1 1-U->2; 3 2"},
		draws{"CREATE (a {k: 1}) REMOVE a.k SET a:Z RETURN a.k, a:Z, labels(a)", "null true ['Z'];", "0:Z; 1 0"},
		draws{"CREATE (a) DELETE a CREATE (a)-[:T]->(b)", "!wrong", "1 0"},
	)
}
