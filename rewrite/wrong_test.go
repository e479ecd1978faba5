package rewrite_test

import (
	"math"
	"strings"
	"testing"

	"lattice/api"
	"lattice/rewrite"
	"lattice/value"
)

// The errors of P14.1 to P14.3: ErrArg, ErrPlan, ErrRewrite, in this order, with nothing beside them.

// answered holds what all calls answer for steps: the same error.
func answered(t *testing.T, name, want string, c api.Clause, v []api.Var, l []api.Step) {
	t.Helper()
	rewrites := []api.Rewrite{{}, {Kind: api.RewriteSwap}, {Kind: api.RewriteTurn, At: 1}, {Kind: api.RewriteFuse, At: -1}, {Kind: api.RewriteSplit, Step: api.Step{Part: 1}}, {Kind: 5}, {Kind: -1, At: math.MaxInt}, {Step: api.Step{Kind: api.StepLabel, Label: "A"}}}
	for _, r := range rewrites {
		if got := told(rewrite.Apply(c, v, r, l...)); got != want {
			t.Errorf("Apply, %s: %+v: %s", name, r, got)
		}
		if got := toldUndo(rewrite.Undo(c, v, r, l...)); got != want {
			t.Errorf("Undo, %s: %+v: %s", name, r, got)
		}
	}
	for _, picks := range [][]int{nil, {0}, {1, -2, 3}} {
		if got := told(rewrite.Many(c, v, picks, l...)); got != want {
			t.Errorf("Many, %s by %v: %s", name, picks, got)
		}
	}
	if got := toldAll(rewrite.All(c, v, l...)); got != want {
		t.Errorf("All, %s: %s", name, got)
	}
	if got := told(rewrite.Early(c, v, l...)); got != want {
		t.Errorf("Early, %s: %s", name, got)
	}
	if got := told(rewrite.Sharp(c, v, l...)); got != want {
		t.Errorf("Sharp, %s: %s", name, got)
	}
}

func TestClausesThatMayNotBeAsked(t *testing.T) {
	plans := [][]api.Step{nil, {{}}, {{Kind: 9}}, steps(t, "all 0 0; rel 0 0; where 0")}
	refused := func(name string, c api.Clause, v []api.Var) {
		for _, l := range plans {
			answered(t, name, errArg, c, v, l)
		}
	}
	for _, s := range []string{"CREATE (a)", "UNWIND [1] AS y", "WITH 1 AS y", "RETURN 1 AS y", "SET x.k = 1", "REMOVE x.k", "DELETE x", "DETACH DELETE x"} {
		refused(s, clause(t, s), vars("n-x"))
	}
	for _, kind := range []api.ClauseKind{-1, api.ClauseReturn + 1, math.MaxInt, math.MinInt} {
		c := clause(t, "(a)")
		c.Kind = kind
		refused("of no kind", c, nil)
	}
	for _, x := range []struct{ clause, columns string }{
		{"(x)", "x"}, {"()-[x]->()", "n-x"}, {"(a)-[a]->()", ""}, {"()-[a]->(), ()-[a]->()", ""}, {"(a {k: x})", ""}, {"(a {k: a.k})", ""}, {"(a) WHERE x", ""}, {"(a) WHERE f(a)", ""}, {"(a) WHERE count(*) = 1", ""}, {"(a) WHERE true AND x.k = 1", "y"}, {"OPTIONAL MATCH (x)", "x"},
	} {
		refused(x.clause+" with "+x.columns, clause(t, x.clause), vars(x.columns))
	}
	a, yes := api.NodePat{Var: "a"}, api.Expr{Value: value.Bool(true)}
	twice := api.Expr{Kind: api.ExprMap, Keys: []string{"k", "k"}, Kids: make([]api.Expr, 2)}
	for name, c := range map[string]api.Clause{
		"no clause":              {},
		"a path of nothing":      {Paths: make([]api.Path, 1)},
		"a rel too few":          {Paths: []api.Path{{Nodes: []api.NodePat{a, a}}}},
		"a rel too many":         {Paths: []api.Path{{Nodes: []api.NodePat{a}, Rels: make([]api.RelPat, 1)}}},
		"a Dir of 2":             {Paths: []api.Path{{Nodes: []api.NodePat{a, a}, Rels: []api.RelPat{{Dir: 2}}}}},
		"Props that are no map":  {Paths: []api.Path{{Nodes: []api.NodePat{{Has: true, Props: yes}}}}},
		"a key twice":            {Paths: []api.Path{{Nodes: []api.NodePat{{Labels: []string{"A"}, Has: true, Props: twice}}}}},
		"a label of no name":     {Paths: []api.Path{{Nodes: []api.NodePat{{Labels: []string{""}}}}}},
		"a Var too long":         {Paths: []api.Path{{Nodes: []api.NodePat{{Var: strings.Repeat("a", api.MaxName+1)}}}}},
		"Where without HasWhere": {Paths: []api.Path{{Nodes: []api.NodePat{a}}}, Where: yes},
		"a Limit":                {Paths: []api.Path{{Nodes: []api.NodePat{a}}}, HasLimit: true},
		"too many paths":         {Paths: make([]api.Path, api.MaxItems+1)},
	} {
		refused(name, c, nil)
	}
}

func TestPlansThatMayNotBe(t *testing.T) {
	c := clause(t, one+" AND a.y = 3")
	for _, s := range []string{
		"", "all 0 0", "rel 0 0", "all 0 0; rel 0 0", "all 0 0; rel 0 0; where 0", "rel 0 0; all 0 0; where 0; where 1", "all 0 0; rel 0 0 back; where 0; where 1", "all 0 0; rel 0 0; all 0 1; where 0; where 1", "all 0 0; where 0; rel 0 0; where 1", "all 0 0; rel 0 0; where 0; where 0; where 1",
		"label 0 1 A; rel 0 0 back; where 0; where 1", "seek 0 0 A x; rel 0 0; where 0; where 1", "bound 0 0; rel 0 0; where 0; where 1", "all 0 2; rel 0 0; where 0; where 1", "all 0 0; rel 0 0; where 0; where 1; where 2", "all -1 0; rel 0 0; where 0; where 1",
	} {
		answered(t, s, errPlan, c, nil, steps(t, s))
		answered(t, s, errArg, c, []api.Var{{Name: "r", Kind: api.VarRel}}, steps(t, s)) // what comes first is told
	}
	good := steps(t, "all 0 0; all 0 1; rel 0 0; where 0; where 1")
	for i := range good {
		for _, change := range []func(*api.Step){func(s *api.Step) { s.Kind = 6 }, func(s *api.Step) { s.Kind = -1 }, func(s *api.Step) { s.Path = math.MaxInt }, func(s *api.Step) { s.Part += 2 }, func(s *api.Step) { s.Label += "A" }, func(s *api.Step) { s.Key += "k" }, func(s *api.Step) { s.Cond += 2 }} {
			l := append([]api.Step(nil), good...)
			change(&l[i])
			answered(t, line(l), errPlan, c, nil, l)
		}
	}
	// Of a plan that may be, what applies to no plan is ErrRewrite; what asks for no rewrite goes.
	for _, r := range []api.Rewrite{{Kind: 5}, {Kind: -1}, {Kind: api.RewriteSwap, At: 4}, {Kind: api.RewriteFuse}} {
		if got := told(rewrite.Apply(c, nil, r, good...)); got != errRewrite {
			t.Error(got)
		}
	}
	if got := told(rewrite.Many(c, nil, nil, good...)); got != line(good) {
		t.Error(got)
	}
}
