package planner_test

import (
	"math"
	"strings"
	"testing"

	"lattice/api"
	"lattice/planner"
	"lattice/value"
)

// The errors of P15.1 to P15.3: ErrArg, ErrPlan, in this order, with nothing beside them.

// refused holds that all calls answer ErrArg, whatever the steps and the tries are.
func refused(t *testing.T, name string, c api.Clause, v []api.Var) {
	t.Helper()
	for _, s := range []api.Stats{{}, counts(t, many)} {
		for _, l := range [][]api.Step{nil, {{}}, {{Kind: 9}}, steps(t, "all 0 0; rel 0 0; where 0")} {
			if got := reckoned(c, v, s, l); got != errArg {
				t.Errorf("%s: %s", name, got)
			}
			if got := toldText(planner.Text(c, v, s, l...)); got != errArg {
				t.Errorf("Text, %s: %s", name, got)
			}
		}
		if got := told(planner.Greedy(c, v, s)); got != errArg {
			t.Errorf("Greedy, %s: %s", name, got)
		}
		for _, tries := range []int{0, 1, 1000, api.MaxTries, api.MaxTries + 1, -1} {
			if got := toldBest(planner.Best(c, v, s, tries)); got != errArg {
				t.Errorf("Best, %s in %d: %s", name, tries, got)
			}
		}
	}
}

func TestClausesThatMayNotBeAsked(t *testing.T) {
	for _, s := range []string{"CREATE (a)", "UNWIND [1] AS y", "WITH 1 AS y", "RETURN 1 AS y", "SET x.k = 1", "REMOVE x.k", "DELETE x", "DETACH DELETE x"} {
		refused(t, s, clause(t, s), vars("n-x"))
	}
	for _, kind := range []api.ClauseKind{-1, api.ClauseReturn + 1, math.MaxInt, math.MinInt} {
		c := clause(t, "(a)")
		c.Kind = kind
		refused(t, "of no kind", c, nil)
	}
	for _, x := range []struct{ clause, columns string }{
		{"(x)", "x"}, {"()-[x]->()", "n-x"}, {"(a)-[a]->()", ""}, {"()-[a]->(), ()-[a]->()", ""}, {"(a {k: x})", ""}, {"(a {k: a.k})", ""}, {"(a) WHERE x", ""}, {"(a) WHERE f(a)", ""}, {"(a) WHERE count(*) = 1", ""}, {"(a) WHERE true AND x.k = 1", "y"}, {"OPTIONAL MATCH (x)", "x"},
	} {
		refused(t, x.clause+" with "+x.columns, clause(t, x.clause), vars(x.columns))
	}
	refused(t, "a relationship's column", clause(t, "(r)"), []api.Var{{Name: "r", Kind: api.VarRel}})
	a, yes := api.NodePat{Var: "a"}, api.Expr{Value: value.Bool(true)}
	twice := api.Expr{Kind: api.ExprMap, Keys: []string{"k", "k"}, Kids: make([]api.Expr, 2)}
	for name, c := range map[string]api.Clause{
		"no clause":              {},
		"a path of nothing":      {Paths: make([]api.Path, 1)},
		"a rel too few":          {Paths: []api.Path{{Nodes: []api.NodePat{a, a}}}},
		"a rel too many":         {Paths: []api.Path{{Nodes: []api.NodePat{a}, Rels: make([]api.RelPat, 1)}}},
		"a Dir of 2":             {Paths: []api.Path{{Nodes: []api.NodePat{a, a}, Rels: []api.RelPat{{Dir: 2}}}}},
		"Props that are no map":  {Paths: []api.Path{{Nodes: []api.NodePat{{Has: true, Props: yes}}}}},
		"a key twice":            {Paths: []api.Path{{Nodes: []api.NodePat{{Labels: []string{"A"}, Has: true, Props: twice}}}}},
		"a label of no name":     {Paths: []api.Path{{Nodes: []api.NodePat{{Labels: []string{""}}}}}},
		"a Var too long":         {Paths: []api.Path{{Nodes: []api.NodePat{{Var: strings.Repeat("a", api.MaxName+1)}}}}},
		"Where without HasWhere": {Paths: []api.Path{{Nodes: []api.NodePat{a}}}, Where: yes},
		"a Limit":                {Paths: []api.Path{{Nodes: []api.NodePat{a}}}, HasLimit: true},
		"too many paths":         {Paths: make([]api.Path, api.MaxItems+1)},
	} {
		refused(t, name, c, nil)
	}
}

func TestPlansThatMayNotBe(t *testing.T) {
	c, s := clause(t, "(a:A {k: 1})-[r]->(b) WHERE b.x = 2 AND a.y = 3"), counts(t, many)
	column := []api.Var{{Name: "r", Kind: api.VarRel}}
	holds := func(l []api.Step) {
		t.Helper()
		if got := reckoned(c, nil, s, l); got != errPlan {
			t.Errorf("%s: %s", line(l), got)
		}
		if got := toldText(planner.Text(c, nil, s, l...)); got != errPlan {
			t.Errorf("Text, %s: %s", line(l), got)
		}
		// Of both errors ErrArg is told.
		if got := reckoned(c, column, s, l); got != errArg {
			t.Errorf("%s: %s", line(l), got)
		}
		if got := toldText(planner.Text(c, column, s, l...)); got != errArg {
			t.Errorf("Text, %s: %s", line(l), got)
		}
	}
	for _, l := range []string{
		"", "all 0 0", "rel 0 0", "all 0 0; rel 0 0", "all 0 0; rel 0 0; where 0", "rel 0 0; all 0 0; where 0; where 1", "all 0 0; rel 0 0 back; where 0; where 1", "all 0 0; rel 0 0; all 0 1; where 0; where 1", "all 0 0; where 0; rel 0 0; where 1", "all 0 0; rel 0 0; where 0; where 0; where 1",
		"label 0 1 A; rel 0 0 back; where 0; where 1", "seek 0 0 A x; rel 0 0; where 0; where 1", "seek 0 0 Z k; rel 0 0; where 0; where 1", "bound 0 0; rel 0 0; where 0; where 1", "all 0 2; rel 0 0; where 0; where 1", "all 0 0; rel 0 0; where 0; where 1; where 2", "all -1 0; rel 0 0; where 0; where 1", "all 0 0; rel 0 1; where 0; where 1", "all 1 0; rel 0 0; where 0; where 1", "all 0 0; rel 0 0; where 0; where -1",
	} {
		holds(steps(t, l))
	}
	good := steps(t, "all 0 0; all 0 1; rel 0 0; where 0; where 1")
	for i := range good {
		for _, change := range []func(*api.Step){func(s *api.Step) { s.Kind = 6 }, func(s *api.Step) { s.Kind = -1 }, func(s *api.Step) { s.Kind = math.MaxInt }, func(s *api.Step) { s.Path = math.MaxInt }, func(s *api.Step) { s.Path = math.MinInt }, func(s *api.Step) { s.Part += 2 }, func(s *api.Step) { s.Part = math.MaxInt }, func(s *api.Step) { s.Label += "A" }, func(s *api.Step) { s.Key += "k" }, func(s *api.Step) { s.Cond += 2 }} {
			l := append([]api.Step(nil), good...)
			change(&l[i])
			holds(l)
		}
	}
	if got := reckoned(c, nil, s, good); got != "100 10000 600 300 150, 71000" {
		t.Error(got)
	}
}

func TestTriesThatMayNotBe(t *testing.T) {
	c, s := clause(t, one), counts(t, oneCounts)
	for tries, want := range map[int]string{
		-1: errArg, -2: errArg, math.MinInt: errArg, -api.MaxTries: errArg, api.MaxTries + 1: errArg, 2 * api.MaxTries: errArg, math.MaxInt: errArg, 1 << 32: errArg, -1 << 32: errArg,
		0: "seek 0 0 A k; rel 0 0 of some", 1: "seek 0 0 A k; rel 0 0 of some", api.MaxTries: "seek 0 0 A k; rel 0 0 of all", api.MaxTries - 1: "seek 0 0 A k; rel 0 0 of all",
	} {
		if got := toldBest(planner.Best(c, nil, s, tries)); got != want {
			t.Errorf("%d: %s", tries, got)
		}
	}
}
