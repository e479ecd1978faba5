package match_test

import (
	"slices"
	"strings"
	"testing"

	"lattice/api"
	"lattice/match"
	"lattice/value"
)

// P8.1: Find, Ways, of clauses that layer 6 lets be.

// The chapter's examples: nodes 0, 1; relationship 0 from 0 to 1.
func TestExamples(t *testing.T) {
	hold(t, plain(t, 2, [2]int{0, 1}), api.Place{},
		finds{"(a)-[r]-(b)", "n0 r0 n1;n1 r0 n0;"},
		finds{"(a)-[]->(b), (b)-[]->(c)", ""},
		finds{"(a)-->(b), (c)", "n0 n1 n0;n0 n1 n1;"},
	)
}

func TestNodes(t *testing.T) {
	hold(t, world(t), api.Place{},
		finds{"(a)", "n0;n1;n2;n3;"},
		finds{"(a:A)", "n0;n1;"},
		finds{"(a:B)", "n1;n2;"},
		finds{"(a:A:B)", "n1;"},
		finds{"(a:B:A)", "n1;"},
		finds{"(a:C)", ""},
		finds{"(a:A:C)", ""},
		finds{"(a {k: 1})", "n0;n2;"},
		finds{"(a:B {k: 1})", "n2;"},
		finds{"(a {k: 2, t: 'x'})", "n1;"},
		finds{"(a {k: 2, t: 'y'})", ""},
		finds{"(a {z: 1})", ""},
		finds{"(a {z: null})", ""},
		finds{"(a {k: null})", ""},
		finds{"(a {})", "n0;n1;n2;n3;"},
		finds{"(a {k: '1'})", ""},
		finds{"()", ";;;;"},
		finds{"(:A)", ";;"},
	)
	hold(t, plain(t, 0), api.Place{}, finds{"(a)", ""}, finds{"()", ""}, finds{"(a)-->(b)", ""}, finds{"OPTIONAL MATCH (a)-[r]->(b)", "null null null;"})
}

func TestRelationships(t *testing.T) {
	hold(t, world(t), api.Place{},
		finds{"(a)-[r]->(b)", "n0 r0 n1;n0 r4 n1;n1 r1 n2;n2 r2 n2;n2 r3 n0;"},
		finds{"(a)<-[r]-(b)", "n0 r3 n2;n1 r0 n0;n1 r4 n0;n2 r1 n1;n2 r2 n2;"},
		finds{"(a)-[r]-(b)", "n0 r0 n1;n0 r3 n2;n0 r4 n1;n1 r0 n0;n1 r1 n2;n1 r4 n0;n2 r1 n1;n2 r2 n2;n2 r3 n0;"},
		finds{"(a)-->(b)", "n0 n1;n0 n1;n1 n2;n2 n0;n2 n2;"},
		finds{"()-[r]->()", "r0;r1;r2;r3;r4;"},
		finds{"()-[r]-()", "r0;r0;r1;r1;r2;r3;r3;r4;r4;"},
		finds{"()-->(b)", "n0;n1;n1;n2;n2;"},
		finds{"(a)-[r:T]->(b)", "n0 r0 n1;n1 r1 n2;"},
		finds{"(a)-[r:U|V]->(b)", "n0 r4 n1;n2 r2 n2;n2 r3 n0;"},
		finds{"(a)-[r:V|U|V]->(b)", "n0 r4 n1;n2 r2 n2;n2 r3 n0;"},
		finds{"(a)-[r:W]->(b)", ""},
		finds{"(a)-[r {w: 1}]->(b)", "n0 r0 n1;n0 r4 n1;"},
		finds{"(a)-[r:T {w: 1}]->(b)", "n0 r0 n1;"},
		finds{"(a)-[r {w: null}]->(b)", ""},
		finds{"(a)-[{}]->(b:B)", "n0 n1;n0 n1;n1 n2;n2 n2;"},
		finds{"(a:A)-->(b:B)", "n0 n1;n0 n1;n1 n2;"},
		finds{"(a:A)-->(b:B {k: 1})", "n1 n2;"},
	)
}

// A relationship from a node to itself, with each Dir: once.
func TestLoops(t *testing.T) {
	hold(t, plain(t, 2, [2]int{1, 1}), api.Place{},
		finds{"(a)-[r]->(b)", "n1 r0 n1;"},
		finds{"(a)<-[r]-(b)", "n1 r0 n1;"},
		finds{"(a)-[r]-(b)", "n1 r0 n1;"},
		finds{"(a)-[r]->(a)", "n1 r0;"},
		finds{"(a)<-[r]-(a)", "n1 r0;"},
		finds{"(a)-[r]-(a)", "n1 r0;"},
		finds{"(a)--(b)--(c)", ""},
	)
	hold(t, plain(t, 2, [2]int{1, 1}, [2]int{1, 1}, [2]int{0, 1}), api.Place{},
		finds{"(a)-[r]-(a)-[s]-(a)", "n1 r0 r1;n1 r1 r0;"},
		finds{"(a)-[r]->(b)-[s]->(b)", "n0 r2 n1 r0;n0 r2 n1 r1;n1 r0 n1 r1;n1 r1 n1 r0;"},
	)
}

// No relationship is given to two parts, of one path or of two.
func TestNoRelationshipTwice(t *testing.T) {
	one := plain(t, 2, [2]int{0, 1})
	hold(t, one, api.Place{},
		finds{"(a)--(b)--(c)", ""},
		finds{"(a)-->(b)<--(c)", ""},
		finds{"(a)-->(b), (c)-->(d)", ""},
		finds{"(a)-[r]-(b), (c)-[s]-(d)", ""},
		finds{"()--(), ()--()", ""},
		finds{"(a)-->(b), (c), (d)", "n0 n1 n0 n0;n0 n1 n0 n1;n0 n1 n1 n0;n0 n1 n1 n1;"},
	)
	hold(t, plain(t, 3, [2]int{0, 1}, [2]int{2, 1}), api.Place{},
		finds{"(a)-->(b)<--(c)", "n0 n1 n2;n2 n1 n0;"},
		finds{"(a)-[r]->(), (b)-[s]->()", "n0 r0 n2 r1;n2 r1 n0 r0;"},
	)
	// One that was given, and is free again, may be given anew.
	hold(t, plain(t, 3, [2]int{0, 1}, [2]int{0, 2}), api.Place{},
		finds{"(a)-[r]->(b), (a)-[s]->(c)", "n0 r0 n1 r1 n2;n0 r1 n2 r0 n1;"},
	)
	// A row's relationships are not the clause's.
	hold(t, one, place("r", rel(0)), finds{"(a)-[s]->(b)", "r0 n0 r0 n1;"})
}

func TestLongerPaths(t *testing.T) {
	hold(t, world(t), api.Place{},
		finds{"(a)-[r]->(b)-[s]->(c)", "n0 r0 n1 r1 n2;n0 r4 n1 r1 n2;n1 r1 n2 r2 n2;n1 r1 n2 r3 n0;n2 r2 n2 r3 n0;n2 r3 n0 r0 n1;n2 r3 n0 r4 n1;"},
		finds{"(a)-[:T]->(b)-[:T]->(c)-[:V]->(d)", "n0 n1 n2 n0;"},
		finds{"(a)-[:T]->()<-[:U]-(c)", "n0 n0;n1 n2;"},
		finds{"(a:A)-[:T]->(b), (b)-[r:V]->(c)", "n1 n2 r3 n0;"},
	)
}

// A Var that stands in several nodes' parts has one node, with what all of them ask for.
func TestOneVarInSeveralParts(t *testing.T) {
	hold(t, world(t), api.Place{},
		finds{"(a)-->(a)", "n2;"},
		finds{"(a)-->(b)-->(c)-->(a)", "n0 n1 n2;n0 n1 n2;n1 n2 n0;n1 n2 n0;n2 n0 n1;n2 n0 n1;"},
		finds{"(a), (a)", "n0;n1;n2;n3;"},
		finds{"(a:A), (a:B)", "n1;"},
		finds{"(a:B), (a {k: 1})", "n2;"},
		finds{"(a)-->(b:B), (a:B)", "n1 n2;n2 n2;"},
		finds{"(a)-[:V]->(b), (c)-[:T]->(b)", ""},
		finds{"(a)-[:V]->(b), (b)-[:T]->(c)", "n2 n0 n1;"},
		finds{"(a)-->(b), (a)<--(b)", ""},
		finds{"(a:A), (b)-->(a)", "n0 n2;n1 n0;n1 n0;"},
	)
}

// A Var that is a column.
func TestColumns(t *testing.T) {
	g := world(t)
	hold(t, g, place("a", node(1)),
		finds{"(a)", "n1;"},
		finds{"(a:A)", "n1;"},
		finds{"(a {k: 2})", "n1;"},
		finds{"(a:C)", ""},
		finds{"(a {k: 1})", ""},
		finds{"(b)", "n1 n0;n1 n1;n1 n2;n1 n3;"},
		finds{"(a)-[r]->(b)", "n1 r1 n2;"},
		finds{"(b)-[r]->(a)", "n1 n0 r0;n1 n0 r4;"},
		finds{"(b)-->(a)-->(c)", "n1 n0 n2;n1 n0 n2;"},
		finds{"(b)-->(a {k: 1})", ""},
		finds{"(a)-->(a)", ""},
		finds{"(b {k: a.k})", "n1 n1;"},
		finds{"()-[r {w: a.k}]->()", "n1 r1;"},
		finds{"OPTIONAL MATCH (a:C)", "n1;"},
		finds{"OPTIONAL MATCH (a:C)-[r]-(b)", "n1 null null;"},
	)
	// Nothing is no node, and so is one that is there no more.
	for _, v := range []api.Value{value.Null(), node(4), node(5), node(1 << 40)} {
		s := strings.TrimSuffix(told([][]api.Value{{v}}, api.OK), ";")
		hold(t, g, place("a", v),
			finds{"(a)", ""},
			finds{"(a)-->(b)", ""},
			finds{"(b)-->(a)", ""},
			finds{"(b), (a)", ""},
			finds{"(c:C)", ""},
			finds{"(c:A)", s + " n0;" + s + " n1;"},
			finds{"OPTIONAL MATCH (a)-[r]->(b)", s + " null null;"},
		)
	}
	// Columns that no part has stand in the rows as they are.
	hold(t, g, place("x", value.Int(7), "r", rel(0), "l", value.List(value.Null(), node(9))),
		finds{"(a:A)", "7 r0 [null, <n9>] n0;7 r0 [null, <n9>] n1;"},
		finds{"(a {k: x - 6})-[s {w: r.w}]->(b)", "7 r0 [null, <n9>] n0 r0 n1;7 r0 [null, <n9>] n0 r4 n1;"},
		finds{"(a {k: size(l)}) WHERE a.k + x = 9", "7 r0 [null, <n9>] n1;"},
	)
	// Of two columns of one name the first one counts.
	hold(t, g, place("a", node(0), "a", node(1)), finds{"(a)", "n0 n1;"}, finds{"(b {k: a.k})", "n0 n1 n0;n0 n1 n2;"})
	hold(t, g, place("a", node(0), "a", value.Int(5)), finds{"(a)-[r:T]->(b)", "n0 5 r0 n1;"})
	// A part without a name is none of a column without one.
	hold(t, g, place("", value.Int(1)), finds{"(:A)", "1;1;"}, finds{"()-[:T]->()", "1;1;"})
}

// More ways that tell the same row.
func TestAWayMoreARowMore(t *testing.T) {
	hold(t, world(t), place("a", node(0)),
		finds{"(a)-->()", "n0;n0;"},
		finds{"(a), ()", "n0;n0;n0;n0;"},
		finds{"(a)-->(), (:A)", "n0;n0;n0;n0;"},
	)
	hold(t, world(t), api.Place{}, finds{"(a)-->(b), ()-[:V]->()", "n0 n1;n0 n1;n1 n2;n2 n2;"})
}

// Props are worth what they are on the row, once, whatever the ways are.
func TestProps(t *testing.T) {
	g := world(t)
	p := with(place("x", value.Int(1), "m", value.List(value.Int(1))), "p", value.Int(2), "n", value.Null())
	hold(t, g, p,
		finds{"(a {k: x})", "1 [1] n0;1 [1] n2;"},
		finds{"(a {k: $p})", "1 [1] n1;"},
		finds{"(a {k: $n})", ""},
		finds{"(a {k: m[0]}), (b {k: $p})", "1 [1] n0 n1;1 [1] n2 n1;"},
		finds{"(a {k: coalesce($n, x)})-[r {w: $p - x}]->(b)", "1 [1] n0 r0 n1;1 [1] n0 r4 n1;"},
		// What goes wrong goes wrong where there are no ways, too; from the left, path by path.
		finds{"(a:C {k: 1 / 0})", "!zero"},
		finds{"(a:C), (b {k: 1 / 0})", "!zero"},
		finds{"(a:C)-[{w: 1 / 0}]->()", "!zero"},
		finds{"(a {k: 1 + 'x'}), (b {k: 1 / 0})", "!type"},
		finds{"(a {k: 1 / 0}), (b {k: 1 + 'x'})", "!zero"},
		finds{"(a {k: 1 / 0})-[{w: 1 + 'x'}]->(b)", "!zero"},
		finds{"(a)-[{w: 1 + 'x'}]->(b {k: 1 / 0})", "!type"},
		finds{"(a)-->(b {k: 1 + 'x'})-[{k: 1 / 0}]->(c)", "!type"},
		finds{"(a {k: 9223372036854775807 + x})", "!wide"},
		finds{"(a {k: range(1, 70000)})", "!great"},
		finds{"OPTIONAL MATCH (a:C {k: 1 / 0})", "!zero"},
		// They go wrong ahead of a Where.
		finds{"(a {k: 1 / 0}) WHERE 1 + 'x'", "!zero"},
		// A property that is left out of a list, or a map, is as good as the others.
		finds{"(a {k: [x][5]})", ""},
	)
	if n, no := match.Ways(g, p, clause(t, "(a:C {k: 1 / 0})")); n != 0 || no != api.ErrZero {
		t.Error(n, no)
	}
	if n, no := match.Ways(plain(t, 0), p, clause(t, "(a)-[{k: 1 + 'x'}]-({k: 1 / 0})")); n != 0 || no != api.ErrType {
		t.Error(n, no)
	}
}

func TestWhere(t *testing.T) {
	hold(t, world(t), with(place("x", value.Int(1)), "p", value.Int(2)),
		finds{"(a) WHERE a.k = x", "1 n0;1 n2;"},
		finds{"(a) WHERE a.k = $p", "1 n1;"},
		finds{"(a) WHERE a:A AND a:B", "1 n1;"},
		finds{"(a) WHERE a.z = 1", ""},
		finds{"(a) WHERE null", ""},
		finds{"(a) WHERE false", ""},
		finds{"(a:A) WHERE true", "1 n0;1 n1;"},
		finds{"(a)-[r]->(b) WHERE r.w = a.k", "1 n0 r0 n1;1 n0 r4 n1;1 n1 r1 n2;"},
		finds{"(a)-[r]->(b) WHERE type(r) = 'U'", "1 n0 r4 n1;1 n2 r2 n2;"},
		finds{"(a), (b) WHERE id(a) = 2 AND id(b) > 1", "1 n2 n2;1 n2 n3;"},
		// Those of its parts that stand behind one that is not true are not asked.
		finds{"(a) WHERE a.k = 7 AND 1 / 0", ""},
		finds{"(a) WHERE a.k <> 1 AND 1 / (a.k - 1) = 1", "1 n1;"},
		finds{"OPTIONAL MATCH (a) WHERE a.k = 7", "1 null;"},
		finds{"OPTIONAL MATCH (a) WHERE a.k = 2", "1 n1;"},
		finds{"OPTIONAL MATCH (a:A)-->(b) WHERE a.k = b.k", "1 null null;"},
		// Without a way it is not asked.
		finds{"(a:C) WHERE 1 / 0", ""},
		finds{"OPTIONAL MATCH (a:C) WHERE 1 / 0", "1 null;"},
		finds{"OPTIONAL MATCH (a) WHERE a.k / 0 = 1", "!zero"},
		finds{"(a:A) WHERE 7", "!type"},
		finds{"(a:A) WHERE a", "!type"},
	)
}

// The Where's error is that of the first way's row, in the order of rows, not in that of ways.
func TestFirstRowThatGoesWrong(t *testing.T) {
	// by goes wrong in two ways, of two nodes.
	by := func(zero, text int) string {
		n := []string{"0", "1", "2", "3"}
		return " WHERE CASE WHEN id(b) = " + n[zero] + " THEN 1 / 0 = 1 WHEN id(b) = " + n[text] + " THEN 1 + 'x' = 1 ELSE true END"
	}
	g := plain(t, 4, [2]int{0, 3}, [2]int{1, 2}, [2]int{2, 1}, [2]int{3, 0})
	hold(t, g, api.Place{},
		finds{"(b)" + by(0, 1), "!zero"},
		finds{"(b)" + by(1, 0), "!type"},
		finds{"(b)" + by(3, 2), "!type"},
		finds{"(b)" + by(2, 3), "!zero"},
		// The ways come by the node without a name: 3, 2, 1, 0.
		finds{"()-->(b)" + by(0, 1), "!zero"},
		finds{"()-->(b)" + by(1, 0), "!type"},
		finds{"()-->(b)" + by(1, 3), "!zero"},
		finds{"()-->(b)" + by(3, 1), "!type"},
		finds{"(), (b)" + by(3, 2), "!type"},
		finds{"(b)<--()" + by(2, 3), "!zero"},
		// The Var that comes first counts first, whatever the Where asks.
		finds{"(a)-->(b)" + by(1, 3), "!type"},
		finds{"(a)-->(b)" + by(3, 1), "!zero"},
		finds{"OPTIONAL MATCH ()-->(b)" + by(3, 1), "!type"},
		// A row that is wrong makes all wrong, also behind ones that are found.
		finds{"(b) WHERE id(b) < 3 OR 1 / 0 = 1", "!zero"},
		finds{"(b) WHERE 1 / (id(b) - 2) = 5", "!zero"},
	)
}

func TestOptional(t *testing.T) {
	g := world(t)
	hold(t, g, place("x", value.String("x")),
		finds{"OPTIONAL MATCH (a:A)", "'x' n0;'x' n1;"},
		finds{"OPTIONAL MATCH (a:C)", "'x' null;"},
		finds{"OPTIONAL MATCH (:C)", "'x';"},
		finds{"OPTIONAL MATCH (:A)", "'x';'x';"},
		finds{"OPTIONAL MATCH (a)-[r:W]->(b), (a)-->(c)", "'x' null null null null;"},
		finds{"OPTIONAL MATCH (a), (b:C)", "'x' null null;"},
	)
	hold(t, g, api.Place{}, finds{"OPTIONAL MATCH (:C)", ";"}, finds{"OPTIONAL MATCH (a:C)", "null;"}, finds{"MATCH (:C)", ""})
}

func TestWays(t *testing.T) {
	g := world(t)
	p := with(place("x", node(2), "none", value.Null()), "p", value.Int(1))
	for _, x := range []struct {
		text string
		want int
	}{
		{"(a)", 4}, {"()", 4}, {"(:A)", 2}, {"(:C)", 0}, {"(a)-->()", 5}, {"(a)--()", 9}, {"(a), (b)", 16}, {"(x)", 1}, {"(x)--()", 3}, {"(none)", 0}, {"(none), (a)", 0}, {"(a {k: $p})", 2},
		// Where and Optional do not count, and what Where names need not be there.
		{"(a) WHERE false", 4}, {"(a) WHERE 1 / 0 = 1", 4}, {"(a) WHERE $q", 4}, {"(a) WHERE nobody", 4}, {"(a) WHERE count(*) = 1", 4}, {"OPTIONAL MATCH (:C)", 0}, {"OPTIONAL MATCH (:C) WHERE a", 0}, {"OPTIONAL MATCH (:A)", 2},
	} {
		if n, no := match.Ways(g, p, clause(t, x.text)); n != x.want || no != api.OK {
			t.Errorf("%s: %d %v, not %d", x.text, n, no, x.want)
		}
	}
	odd := clause(t, "(a:A)")
	odd.HasWhere, odd.Where = true, api.Expr{Kind: -1}
	if n, no := match.Ways(g, p, odd); n != 2 || no != api.OK {
		t.Error(n, no)
	}
}

// P8.1: Vars.
func TestVars(t *testing.T) {
	for _, x := range []struct {
		columns []string
		text    string
		want    []string
	}{
		{nil, "(a)", []string{"a"}},
		{nil, "()", nil},
		{nil, "()-->()", nil},
		{nil, "(b)-[a]->(c), (d)<-[e]-()", []string{"b", "a", "c", "d", "e"}},
		{nil, "(a)-[r]->(b)-[s]->(c)", []string{"a", "r", "b", "s", "c"}},
		{nil, "(a)-->(b)-->(a), (b), (c)", []string{"a", "b", "c"}},
		{[]string{"a"}, "(a)-[r]->(b)", []string{"r", "b"}},
		{[]string{"x", "b", "r"}, "(a)-[r]->(b)", []string{"a"}},
		{[]string{"a", "a", "b"}, "(a)-->(b)", nil},
		{[]string{"", "x"}, "()-->(a)", []string{"a"}},
		{nil, "OPTIONAL MATCH (a) WHERE b", []string{"a"}},
		{nil, "(a)-[a]->(a)", []string{"a"}},
		{nil, "CREATE (a)-[r:T]->(b)", nil},
		{nil, "UNWIND [1] AS x", nil},
		{nil, "WITH 1 AS x", nil},
		{nil, "RETURN 1 AS x", nil},
		{nil, "DELETE x", nil},
		{nil, "SET x.k = 1", nil},
		{nil, "REMOVE x.k", nil},
	} {
		if got := match.Vars(x.columns, clause(t, x.text)); !slices.Equal(got, x.want) {
			t.Errorf("%v %s: %v, not %v", x.columns, x.text, got, x.want)
		}
	}
	// Of paths that layer 4 refuses those that are there.
	node := func(name string) api.NodePat { return api.NodePat{Var: name} }
	rel := func(name string) api.RelPat { return api.RelPat{Var: name} }
	odd := api.Clause{Paths: []api.Path{{Nodes: []api.NodePat{node("a"), node("b"), node("c")}, Rels: []api.RelPat{rel("r")}}, {Rels: []api.RelPat{rel("s"), rel("t")}}, {Nodes: []api.NodePat{node("d")}, Rels: []api.RelPat{rel("u"), rel("v")}}, {}}}
	if got := match.Vars(nil, odd); !slices.Equal(got, []string{"a", "r", "b", "c", "s", "t", "d", "u", "v"}) {
		t.Error(got)
	}
	for _, kind := range []api.ClauseKind{-1, api.ClauseCreate, api.ClauseReturn + 1} {
		odd.Kind = kind
		if got := match.Vars(nil, odd); got != nil {
			t.Error(kind, got)
		}
	}
	if got := match.Vars(nil, api.Clause{}); got != nil {
		t.Error(got)
	}
}

// P8.1: Kinds.
func TestKinds(t *testing.T) {
	g := world(t)
	p := place("n", node(0), "lost", node(4), "r", rel(0), "lostr", rel(5), "x", value.Null(), "y", value.Null(), "z", value.Null(), "i", value.Int(0), "t", value.String(""), "b", value.Bool(true), "l", value.List(node(0)), "m", api.Value{Kind: api.ValueMap})
	always := "n:1 lost:1 r:2 lostr:2 x:? y:? z:? i:0 t:0 b:0 l:0 m:0"
	for _, c := range []struct{ text, x, y, z string }{
		{"(a)", "0", "0", "0"},
		{"(x)", "1", "0", "0"},
		{"(x)-->(y)", "1", "1", "0"},
		{"(a)-->(y)-->(z), (y)", "0", "1", "1"},
		{"(n)-->(lost)", "0", "0", "0"},
		{"OPTIONAL MATCH (a), (z) WHERE x = y", "0", "0", "1"},
		{"() WHERE x", "0", "0", "0"},
	} {
		want := always
		for _, k := range []string{c.x, c.y, c.z} {
			at := slices.Index([]byte(want), '?')
			want = want[:at] + k + want[at+1:]
		}
		l, no := match.Kinds(g, p, clause(t, c.text))
		if got := toldVars(l, no); got != want {
			t.Errorf("%s: %s, not %s", c.text, got, want)
		}
	}
	if l, no := match.Kinds(g, api.Place{}, clause(t, "(a)")); len(l) != 0 || no != api.OK {
		t.Error(l, no)
	}
	for _, x := range []struct {
		p          api.Place
		text, want string
	}{
		{place("a", node(0), "a", value.Null()), "(a)", "a:1 a:1"},
		{place("a", value.Null(), "a", value.Int(1)), "(a)", "a:1 a:0"},
		{place("a", value.Int(1), "a", value.Null()), "(b)", "a:0 a:0"},
		{place("a", value.Int(1), "a", value.Null()), "(a)", "!arg"},
		{place("", value.Null()), "()-->()", ":0"},
		{place("a", node(0)), "(a {k: $p})", "!arg"},
		{with(place("a", node(0)), "p", value.Null()), "(a {k: $p})", "a:1"},
		{with(place("a", node(0)), "p", value.Null()), "(a {k: 1 / 0}) WHERE 1 / 0", "a:1"},
	} {
		if got := toldVars(match.Kinds(g, x.p, clause(t, x.text))); got != x.want {
			t.Errorf("%s: %s, not %s", x.text, got, x.want)
		}
	}
}
