package plan_test

import (
	"testing"

	"lattice/api"
	"lattice/graph"
	"lattice/match"
	"lattice/plan"
	"lattice/value"
)

// P13.2: Find.

// finds is a clause, a plan of it, and what it finds, as rows does.
type finds struct{ clause, plan, want string }

func hold(t *testing.T, g *graph.Graph, p api.Place, l ...finds) {
	t.Helper()
	for _, x := range l {
		if got := rows(plan.Find(g, p, clause(t, x.clause), steps(t, x.plan)...)); got != x.want {
			t.Errorf("%s by %s: %s, not %s", x.clause, x.plan, got, x.want)
		}
	}
}

func TestFind(t *testing.T) {
	hold(t, world(t), api.Place{},
		finds{"(a)", "all 0 0", "n0;n1;n2;n3;"},
		finds{"(a:A)", "all 0 0", "n0;n1;"},
		finds{"(a:A)", "label 0 0 A", "n0;n1;"},
		finds{"(a:A:B)", "label 0 0 A", "n1;"},
		finds{"(a:A:B)", "label 0 0 B", "n1;"},
		finds{"(a:B {x: 2, k: 1})", "seek 0 0 B x", "n1;"},
		finds{"(a:B {x: 2, k: 1})", "seek 0 0 B k", "n1;"},
		finds{"(a:A {k: null})", "seek 0 0 A k", ""},
		finds{"(a:A {z: 1})", "seek 0 0 A z", ""},
		finds{"()", "all 0 0", ";;;;"},
		// Relationships, in each direction, from each end, and between two that are given.
		finds{"(a)-[r]->(b)", "all 0 0; rel 0 0", "n0 r0 n1;n0 r4 n1;n1 r1 n2;n2 r2 n2;n2 r3 n0;"},
		finds{"(a)-[r]->(b)", "all 0 1; rel 0 0 back", "n0 r0 n1;n0 r4 n1;n1 r1 n2;n2 r2 n2;n2 r3 n0;"},
		finds{"(a)-[r]->(b)", "all 0 0; all 0 1; rel 0 0", "n0 r0 n1;n0 r4 n1;n1 r1 n2;n2 r2 n2;n2 r3 n0;"},
		finds{"(a)-[r]->(b)", "all 0 1; all 0 0; rel 0 0 back", "n0 r0 n1;n0 r4 n1;n1 r1 n2;n2 r2 n2;n2 r3 n0;"},
		finds{"(a:A)<-[r]-(b)", "label 0 0 A; rel 0 0", "n0 r3 n2;n1 r0 n0;n1 r4 n0;"},
		finds{"(a:A)<-[r]-(b)", "all 0 1; rel 0 0 back", "n0 r3 n2;n1 r0 n0;n1 r4 n0;"},
		finds{"(a:A:B)-[r]-(b)", "label 0 0 B; rel 0 0", "n1 r0 n0;n1 r1 n2;n1 r4 n0;"},
		finds{"(a:A:B)-[r]-(b)", "all 0 1; rel 0 0 back", "n1 r0 n0;n1 r1 n2;n1 r4 n0;"},
		finds{"(a)-[r]-(a)", "all 0 0; rel 0 0", "n2 r2;"},
		finds{"(a)-[r]-(a)", "all 0 1; bound 0 0; rel 0 0 back", "n2 r2;"},
		finds{"(a)-[r:T]->(b)", "all 0 0; rel 0 0", "n0 r0 n1;n1 r1 n2;"},
		finds{"(a)-[r:T|U {w: 1}]->()", "all 0 1; rel 0 0 back", "n0 r0;n2 r3;"},
		finds{"(a)-[r {w: null}]->(b)", "all 0 0; rel 0 0", ""},
		// No relationship twice, one node for a Var, in one path and in several.
		finds{"(a:A)-[r]-(b)-[s]-(c:A)", "label 0 0 A; rel 0 0; rel 0 1", "n0 r0 n1 r4 n0;n0 r3 n2 r1 n1;n0 r4 n1 r0 n0;n1 r0 n0 r4 n1;n1 r1 n2 r3 n0;n1 r4 n0 r0 n1;"},
		finds{"(a:A)-[r]-(b), (b)-[s]-(c:A)", "all 1 0; bound 0 1; rel 1 0; rel 0 0 back", "n0 r0 n1 r4 n0;n0 r3 n2 r1 n1;n0 r4 n1 r0 n0;n1 r0 n0 r4 n1;n1 r1 n2 r3 n0;n1 r4 n0 r0 n1;"},
		finds{"(a)-->(b)-->(a)", "all 0 1; rel 0 0 back; rel 0 1", ""},
		finds{"(a)-->(b)-->(c)-->(a:A)", "all 0 1; rel 0 1; rel 0 2; rel 0 0 back", "n0 n1 n2;n0 n1 n2;n1 n2 n0;n1 n2 n0;"},
		finds{"(a:B), (b:B)", "all 1 0; all 0 0", "n1 n1;n1 n2;n2 n1;n2 n2;"},
		finds{"(a), (a:B)", "all 0 0; bound 1 0", "n1;n2;"},
		finds{"(a {k: 1}), (a:B)", "label 1 0 B; bound 0 0", "n1;"},
		// The order of the row is the clause's, whatever the plan's.
		finds{"(b:B)<-[r]-(a)", "all 0 1; rel 0 0 back", "n1 r0 n0;n1 r4 n0;n2 r1 n1;n2 r2 n2;"},
		// Conditions, early and late.
		finds{"(a)-[r]->(b) WHERE a.k = b.k AND r.w = 1", "all 0 1; rel 0 0 back; where 1; where 0", "n0 r0 n1;"},
		finds{"(a), (b) WHERE b.k = 2 AND a.y = 3", "all 1 0; where 0; all 0 0; where 1", "n0 n2;"},
		finds{"(a) WHERE false", "where 0; all 0 0", ""},
		finds{"(a:A) WHERE true", "where 0; all 0 0", "n0;n1;"},
		finds{"(a:A) WHERE a.y", "all 0 0; where 0", errWrong},
		finds{"(a:A) WHERE a.y = 3 AND 3 / (a.y - 3) = 1", "all 0 0; where 0; where 1", errWrong},
		finds{"(a:A) WHERE a.y = 4 AND 3 / (a.y - 3) = 1", "all 0 0; where 0; where 1", ""},
		finds{"(a:A) WHERE a.y = 3 AND 3 / a.y = 1", "all 0 0; where 0; where 1", "n0;"},
		finds{"(a:A) WHERE 1 / 0 = 1 AND false", "all 0 0; where 0; where 1", errWrong},
		finds{"(a:A) WHERE false AND 1 / 0 = 1", "where 0; all 0 0; where 1", ""},
		finds{"(a:C) WHERE 1 / 0 = 1", "label 0 0 C; where 0", ""},
		finds{"(a:A) WHERE a.k + 0 = 1 AND a.y + 0 = 3", "all 0 0; where 0; where 1", "n0;"},
		// Optional.
		finds{"OPTIONAL MATCH (a:C)-[r]->(b)", "all 0 1; rel 0 0 back", "null null null;"},
		finds{"OPTIONAL MATCH (:C)", "label 0 0 C", ";"},
		finds{"OPTIONAL MATCH (a) WHERE false", "where 0; all 0 0", "null;"},
		finds{"OPTIONAL MATCH (a:A)", "all 0 0", "n0;n1;"},
		finds{"OPTIONAL MATCH (a:A) WHERE 1 / 0 = 1", "all 0 0; where 0", errWrong},
	)
}

func TestFindForARow(t *testing.T) {
	g := world(t)
	p := place("x", value.List(value.Int(7), value.Null()), "b", node(1), "n", value.Null(), "lost", node(4), "r", rel(0), "$k", value.Int(1))
	const row = "[7, null] n1 null n4 r0"
	hold(t, g, p,
		finds{"(a)", "all 0 0", row + " n0;" + row + " n1;" + row + " n2;" + row + " n3;"},
		finds{"(b)", "bound 0 0", row + ";"},
		finds{"(b:A {x: 2})", "bound 0 0", row + ";"},
		finds{"(b:C)", "bound 0 0", ""},
		finds{"(b {k: 2})", "bound 0 0", ""},
		finds{"(a)-->(b)", "bound 0 1; rel 0 0 back", row + " n0;" + row + " n0;"},
		finds{"(a)-->(b)", "all 0 0; rel 0 0", row + " n0;" + row + " n0;"},
		finds{"(a)-->(b)", "all 0 0; bound 0 1; rel 0 0", row + " n0;" + row + " n0;"},
		finds{"(a)-->(b {k: 2})", "all 0 0; rel 0 0", ""},
		finds{"(b)-->(b)", "bound 0 1; rel 0 0 back", ""},
		finds{"(a:A {k: $k})", "seek 0 0 A k", row + " n0;" + row + " n1;"},
		finds{"(a:A {k: x[0]})", "seek 0 0 A k", ""},
		finds{"(a:A {k: r.w})", "seek 0 0 A k", row + " n0;" + row + " n1;"},
		// What is no node, or there no more, is none that a part may have.
		finds{"(n)", "bound 0 0", ""},
		finds{"(a), (n)", "all 0 0; bound 1 0", ""},
		finds{"(a)-->(n)", "all 0 0; rel 0 0", ""},
		finds{"(lost)", "bound 0 0", ""},
		finds{"(a)-->(lost)", "all 0 0; rel 0 0", ""},
		finds{"OPTIONAL MATCH (a)--(n)", "all 0 0; rel 0 0", row + " null;"},
		finds{"OPTIONAL MATCH (lost)", "bound 0 0", row + ";"},
		// Conditions on columns alone are asked wherever one likes.
		finds{"(a:A) WHERE x = 7 OR b.k = $k", "where 0; all 0 0", row + " n0;" + row + " n1;"},
		finds{"(a:A) WHERE n.k = 1 AND b.k = 1", "all 0 0; where 0; where 1", ""},
		finds{"(a:A) WHERE n.k = 1 AND b.k = 1", "where 1; where 0; all 0 0", errPlan},
		finds{"(a:A) WHERE x[0] = 7", "all 0 0; where 0", row + " n0;" + row + " n1;"},
		finds{"(a:A) WHERE a.k = b.k AND a <> b", "all 0 0; where 1; where 0", row + " n0;"},
		finds{"(a:A) WHERE r.w = $k", "where 0; label 0 0 A", row + " n0;" + row + " n1;"},
	)
	// Of two columns of one name the first one counts, of two parameters too; a column of no name is none's.
	two := place("a", node(0), "a", node(1), "", node(2), "$k", value.Int(1), "$k", value.Int(2))
	hold(t, g, two,
		finds{"(a)-[r]->(b)", "bound 0 0; rel 0 0", "n0 n1 n2 r0 n1;n0 n1 n2 r4 n1;"},
		finds{"(:A {k: $k}) WHERE a.y = 3", "where 0; all 0 0", "n0 n1 n2;n0 n1 n2;"},
		finds{"(:A) WHERE $k = 1 AND a.k = $k", "where 1; where 0; all 0 0", "n0 n1 n2;n0 n1 n2;"},
	)
}

// Props are worth what they are ahead of all; whatever goes wrong is ErrWrong.
func TestPropsThatGoWrong(t *testing.T) {
	g, none := world(t), made(t, "CREATE ()")
	none.Drop(false, 0)
	p := place("x", value.Int(1), "$t", value.String("a"))
	for _, g := range []*graph.Graph{g, none} {
		hold(t, g, p,
			finds{"(a {k: 1 / 0})", "all 0 0", errWrong},
			finds{"(a:C {k: 1 + true})", "label 0 0 C", errWrong},
			finds{"(a:C {k: 1 + true})", "seek 0 0 C k", errWrong},
			finds{"(a:C)-[{w: x.k}]->(b)", "all 0 1; rel 0 0 back", errWrong},
			finds{"(a:C), (b {k: 9223372036854775807 + $t})", "all 0 0; all 1 0", errWrong},
			finds{"(a:C), (b {k: abs($t)}) WHERE false", "where 0; all 0 0; all 1 0", errWrong},
			finds{"OPTIONAL MATCH (a {k: 1 % 0})", "all 0 0", errWrong},
			finds{"(a), (b {k: x})-[{w: range(1, 2, 0)}]->()", "all 0 0; all 1 0; rel 1 0", errWrong},
		)
	}
}

func TestWhatFindRefuses(t *testing.T) {
	g := world(t)
	c, l := clause(t, "(a)-->(b) WHERE a.k = $p"), steps(t, "all 0 0; rel 0 0; where 0")
	p := place("x", value.Int(1), "$p", value.Int(1))
	ask := func(name string, g *graph.Graph, p api.Place, c api.Clause, l []api.Step, want api.Errno) {
		t.Helper()
		if got := rows(plan.Find(g, p, c, l...)); got != want.Error() {
			t.Errorf("%s: %s", name, got)
		}
	}
	if got := rows(plan.Find(g, p, c, l...)); got != "1 n0 n1;1 n0 n1;1 n1 n2;" {
		t.Error(got)
	}
	bad, wrong := steps(t, "all 0 0; where 0"), clause(t, "(a {k: 1 / 0})-->(b) WHERE a.k = $p")
	short, text := p, p
	short.Row = nil
	text.Params = place("$p", value.String("\xff")).Params
	refusing, _ := graph.Make(api.Graph{NextNode: -1})
	for name, g := range map[string]*graph.Graph{"nil": nil, "zero": {}, "refused": refusing} {
		ask(name, g, p, c, l, api.ErrNil)
		ask(name+", another clause", g, p, clause(t, "CREATE (a)"), nil, api.ErrNil)
		ask(name+", a short row", g, short, c, bad, api.ErrNil)
	}
	for name, x := range map[string]struct {
		p api.Place
		c api.Clause
	}{
		"another clause":           {p, clause(t, "CREATE (a)")},
		"no clause":                {p, api.Clause{}},
		"a short row":              {short, c},
		"a row without columns":    {api.Place{Row: p.Row, Params: p.Params}, c},
		"no parameter":             {place("x", value.Int(1)), c},
		"another parameter":        {place("x", value.Int(1), "$q", value.Int(1)), c},
		"a text of no UTF-8":       {place("x", value.String("\xff"), "$p", value.Int(1)), c},
		"a parameter of no UTF-8":  {text, c},
		"a column that is no node": {place("a", value.Int(1), "$p", value.Int(1)), c},
		"a rel that is there":      {p, clause(t, "()-[x]->()")},
		"a variable that is not":   {p, clause(t, "(a) WHERE y")},
	} {
		for _, l := range [][]api.Step{l, bad, nil, {{Kind: -1}}} {
			ask(name, g, x.p, x.c, l, api.ErrArg)
		}
	}
	// A plan that may not be counts ahead of Props that go wrong.
	for _, l := range [][]api.Step{bad, nil, {{Kind: -1}}, append(l[:len(l):len(l)], l[2])} {
		ask("a plan that may not be", g, p, c, l, api.ErrPlan)
		ask("a plan that may not be", g, p, wrong, l, api.ErrPlan)
	}
	ask("Props that go wrong", g, p, wrong, l, api.ErrWrong)
	// The columns' kinds are those that layer 8 takes them for: nothing is what the clause takes it for.
	for _, v := range []api.Value{value.Null(), node(0)} {
		ask("a column of a node", g, place("a", v), clause(t, "(a)"), steps(t, "all 0 0"), api.ErrPlan)
		if got := rows(plan.Find(g, place("a", v), clause(t, "OPTIONAL MATCH (b) WHERE a.k = 9"), steps(t, "all 0 0; where 0")...)); got != rows(match.Find(g, place("a", v), clause(t, "OPTIONAL MATCH (b) WHERE a.k = 9"))) {
			t.Error(got)
		}
	}
	ask("a number's property", g, place("a", value.Int(1)), clause(t, "(b) WHERE a.k = 9"), steps(t, "where 0; all 0 0"), api.ErrPlan)
	ask("a number's property", g, place("a", value.Int(1)), clause(t, "(b) WHERE a.k = 9"), steps(t, "all 0 0; where 0"), api.ErrWrong)
	ask("nothing's property", g, place("a", value.Null()), clause(t, "(b) WHERE a.k = 9"), steps(t, "where 0; all 0 0"), api.ErrPlan)
	if got := rows(plan.Find(g, place("a", node(0)), clause(t, "(b:B) WHERE a.k = 1"), steps(t, "where 0; all 0 0")...)); got != "n0 n1;n0 n2;" {
		t.Error(got)
	}
}
