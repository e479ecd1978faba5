package plan_test

import (
	"math"
	"strings"
	"testing"

	"lattice/api"
	"lattice/plan"
	"lattice/value"
)

// P13.1: Check, Plain.

// one is the clause of the chapter's examples.
const one = "(a:A {k: 1})-[r]->(b) WHERE b.x = 2 AND a.y = 3"

// checked are plans of a clause that may be, and others that may not.
type checked struct {
	clause, columns string
	may, not        []string
}

func TestCheck(t *testing.T) {
	for _, x := range []checked{
		{one, "", []string{
			"all 0 0; rel 0 0; where 0; where 1", "all 0 0; rel 0 0; where 1; where 0", "seek 0 0 A k; where 1; rel 0 0; where 0", "label 0 0 A; where 1; rel 0 0; where 0", "all 0 1; where 0; rel 0 0 back; where 1", "all 0 0; all 0 1; rel 0 0; where 0; where 1", "all 0 1; all 0 0; where 1; where 0; rel 0 0 back", "all 0 1; seek 0 0 A k; rel 0 0 back; where 0; where 1",
		}, []string{
			"", "all 0 0", "all 0 0; rel 0 0", "all 0 0; rel 0 0; where 0", // a part, a condition that is not there
			"rel 0 0; all 0 0; where 0; where 1", "rel 0 0 back; where 0; where 1", "all 0 0; rel 0 0 back; where 0; where 1", "all 0 1; rel 0 0; where 0; where 1", "rel 0 0; label 0 1 A; where 0; where 1", // nothing is given at the near end
			"all 0 0; rel 0 0; all 0 1; where 0; where 1", "all 0 0; rel 0 0; bound 0 1; where 0; where 1", "all 0 0; rel 0 0; rel 0 0 back; where 0; where 1", "all 0 0; rel 0 0; rel 0 0; where 0; where 1", "all 0 0; all 0 0; rel 0 0; where 0; where 1", "all 0 0; label 0 0 A; rel 0 0; where 0; where 1", "all 0 0; bound 0 0; rel 0 0; where 0; where 1", "all 0 0; rel 0 0; where 0; where 1; all 0 1", // a part that is given twice
			"all 0 0; rel 0 0; where 0; where 0; where 1", "all 0 0; rel 0 0; where 1; where 0; where 1", // a condition that is asked twice
			"where 0; all 0 0; rel 0 0; where 1", "all 0 0; where 0; rel 0 0; where 1", "all 0 1; where 1; rel 0 0 back; where 0", "where 1; seek 0 0 A k; rel 0 0; where 0", // too early
			"label 0 1 A; rel 0 0 back; where 0; where 1", "label 0 0 B; rel 0 0; where 0; where 1", "seek 0 0 B k; rel 0 0; where 0; where 1", "seek 0 0 A x; rel 0 0; where 0; where 1", "seek 0 1 A k; rel 0 0 back; where 0; where 1", "seek 0 0 k A; rel 0 0; where 0; where 1", "label 0 0 a; rel 0 0; where 0; where 1",
			"bound 0 0; rel 0 0; where 0; where 1", "all 0 0; rel 0 0; where 0; where 2", "all 0 0; rel 0 0; where 0; where 1; where 2", "all 0 2; rel 0 0; where 0; where 1", "all 1 0; rel 0 0; where 0; where 1", "all 0 0; rel 0 1; where 0; where 1", "all 0 0; rel 1 0; where 0; where 1",
		}},
		{one, "n-a", []string{"bound 0 0; where 1; rel 0 0; where 0", "where 1; bound 0 0; rel 0 0; where 0", "where 1; all 0 1; rel 0 0 back; where 0", "all 0 1; where 0; where 1; bound 0 0; rel 0 0"}, []string{"all 0 0; rel 0 0; where 0; where 1", "label 0 0 A; rel 0 0; where 0; where 1", "seek 0 0 A k; rel 0 0; where 0; where 1", "bound 0 0; bound 0 1; rel 0 0; where 0; where 1", "rel 0 0; where 0; where 1", "where 0; bound 0 0; rel 0 0; where 1"}},
		{one, "n-a n-b x", []string{"where 0; where 1; bound 0 0; bound 0 1; rel 0 0 back", "where 1; where 0; bound 0 1; rel 0 0 back", "bound 0 0; rel 0 0; where 0; where 1"}, []string{"bound 0 0; all 0 1; rel 0 0; where 0; where 1", "where 1; where 1; bound 0 0; rel 0 0"}},
		// Nothing asks, nothing has a name.
		{"()", "", []string{"all 0 0"}, []string{"", "bound 0 0", "all 0 0; where 0", "label 0 0"}},
		{"()", "x y", []string{"all 0 0"}, []string{"bound 0 0"}},
		{"()-[]-()", "", []string{"all 0 0; rel 0 0", "all 0 1; rel 0 0 back", "all 0 1; all 0 0; rel 0 0"}, []string{"all 0 0; bound 0 1; rel 0 0"}},
		// A Var that stands for a node twice, in one path and in two.
		{"(a:A)-->(a:B)", "", []string{"all 0 0; rel 0 0", "label 0 1 B; rel 0 0 back", "all 0 0; bound 0 1; rel 0 0", "label 0 1 B; bound 0 0; rel 0 0"}, []string{"all 0 0; all 0 1; rel 0 0", "all 0 0; label 0 1 B; rel 0 0", "bound 0 0; all 0 1; rel 0 0"}},
		{"(a)-->(b), (b)<--(c {k: 1}), (a)", "", []string{"all 0 0; bound 2 0; rel 0 0; bound 1 0; rel 1 0", "all 1 1; rel 1 0 back; bound 0 1; rel 0 0 back; bound 2 0", "all 2 0; all 1 0; bound 0 1; rel 0 0 back; rel 1 0", "all 2 0; bound 0 0; rel 0 0; all 1 1; rel 1 0 back"}, []string{"all 0 0; bound 2 0; rel 0 0; all 1 0; rel 1 0", "all 0 0; bound 2 0; rel 0 0; rel 1 0", "all 0 0; all 2 0; rel 0 0; bound 1 0; rel 1 0", "seek 1 1 A k; rel 1 0 back; bound 0 1; rel 0 0 back; bound 2 0", "seek 1 1  k; rel 1 0 back; bound 0 1; rel 0 0 back; bound 2 0"}},
		// Props without a label, labels without Props, Props of nothing.
		{"(a {k: 1})", "", []string{"all 0 0"}, []string{"label 0 0 A", "seek 0 0 A k"}},
		{"(a:A:B {})", "", []string{"all 0 0", "label 0 0 A", "label 0 0 B"}, []string{"seek 0 0 A k", "label 0 0 A:B"}},
		{"(a:A:B {k: 1, l: 2})", "", []string{"seek 0 0 A k", "seek 0 0 A l", "seek 0 0 B k", "seek 0 0 B l"}, []string{"seek 0 0 C k", "seek 0 0 A m"}},
		{"(a)-[:T {k: 1}]->(b)", "", []string{"all 0 0; rel 0 0"}, []string{"label 0 0 T; rel 0 0", "seek 0 0 T k; rel 0 0"}},
		// Relationships whose other end is given already, and both ways round a path.
		{"(a)-->(b)-->(c)-->(d)", "", []string{"all 0 1; rel 0 1; rel 0 0 back; rel 0 2", "all 0 3; rel 0 2 back; rel 0 1 back; rel 0 0 back", "all 0 0; all 0 3; rel 0 0; rel 0 2 back; rel 0 1 back", "all 0 0; all 0 2; rel 0 1 back; rel 0 0 back; rel 0 2"}, []string{"all 0 0; rel 0 1; rel 0 0; rel 0 2", "all 0 0; rel 0 0; rel 0 2; rel 0 1", "all 0 0; rel 0 0; rel 0 1; rel 0 2; rel 0 3"}},
		// Conditions: those that use columns alone, relationships; those that may go wrong.
		{"(a)-[r]->(b) WHERE x = 1 AND r.w = 1 AND true", "x", []string{"where 0; where 2; all 0 0; rel 0 0; where 1", "where 2; where 0; all 0 1; rel 0 0 back; where 1", "all 0 0; rel 0 0; where 0; where 1; where 2"}, []string{"where 1; all 0 0; rel 0 0; where 0; where 2", "all 0 0; where 1; rel 0 0; where 0; where 2"}},
		{"(a), (b) WHERE a.k = 1 AND 1 / a.k = 1 AND b.k = 1", "", []string{"all 0 0; where 0; all 1 0; where 1; where 2", "all 0 0; all 1 0; where 0; where 1; where 2"}, []string{"all 0 0; where 0; where 1; all 1 0; where 2", "all 1 0; where 2; all 0 0; where 0; where 1", "all 0 0; all 1 0; where 1; where 0; where 2", "all 0 0; all 1 0; where 0; where 2; where 1", "all 0 0; where 1; where 0; all 1 0; where 2", "all 0 0; all 1 0; where 1; where 2; where 0"}},
		{"(a) WHERE x", "x", []string{"all 0 0; where 0"}, []string{"where 0; all 0 0"}},
		{"(a) WHERE x.k = 1", "x", []string{"all 0 0; where 0"}, []string{"where 0; all 0 0"}},
		{"(a) WHERE x.k = 1", "n-x", []string{"all 0 0; where 0", "where 0; all 0 0"}, nil},
		{"(a) WHERE x.k = 1", "r-x", []string{"all 0 0; where 0", "where 0; all 0 0"}, nil},
		{"(a) WHERE $p", "", []string{"all 0 0; where 0"}, []string{"where 0; all 0 0"}},
		{"(a) WHERE a.k = 1 OR a.k = 2 AND a.l = 3", "", []string{"all 0 0; where 0"}, []string{"where 0; all 0 0", "all 0 0; where 0; where 1"}},
		// A column counts as the first one of its name; one of no name is no Var.
		{"OPTIONAL MATCH (a:A) WHERE a.k = 1", "n-a a", []string{"bound 0 0; where 0", "where 0; bound 0 0"}, []string{"label 0 0 A; where 0"}},
	} {
		c, v := clause(t, x.clause), vars(x.columns)
		for _, s := range x.may {
			if no := plan.Check(c, v, steps(t, s)...); no != api.OK {
				t.Errorf("%s with %s: %s: %v", x.clause, x.columns, s, no)
			}
		}
		for _, s := range x.not {
			if no := plan.Check(c, v, steps(t, s)...); no != api.ErrPlan {
				t.Errorf("%s with %s: %s: %v", x.clause, x.columns, s, no)
			}
		}
	}
}

// A column without a name makes nothing known that has none.
func TestColumnWithoutAName(t *testing.T) {
	c, none := clause(t, "()-[]->(b)"), []api.Var{{}, {Name: "", Kind: api.VarNode}}
	if no := plan.Check(c, none, steps(t, "all 0 0; rel 0 0")...); no != api.OK {
		t.Error(no)
	}
	if no := plan.Check(c, none, steps(t, "bound 0 0; rel 0 0")...); no != api.ErrPlan {
		t.Error(no)
	}
	if s := told(plan.Plain(c, none...)); s != "all 0 0; rel 0 0" {
		t.Error(s)
	}
}

// Each step of no kind, or with what its kind does not use, may not be; also numbers that none has.
func TestSpoiltSteps(t *testing.T) {
	spoilt := func(s api.Step) (l []api.Step) {
		put := func(use bool, change func(*api.Step)) {
			x := s
			if change(&x); !use {
				l = append(l, x)
			}
		}
		for _, kind := range []api.StepKind{-1, api.StepWhere + 1, 9, math.MaxInt, math.MinInt} {
			put(false, func(x *api.Step) { x.Kind = kind })
		}
		for _, n := range []int{-1, 1, 2, 7, math.MaxInt, math.MinInt} {
			put(false, func(x *api.Step) { x.Path = n })
			put(n == 1 && s.Kind != api.StepWhere, func(x *api.Step) { x.Part = n })
			put(n == 1 && s.Kind == api.StepWhere, func(x *api.Step) { x.Cond = n })
		}
		put(s.Kind == api.StepRel, func(x *api.Step) { x.Back = true })
		for _, name := range []string{"A", "k", " "} {
			put(false, func(x *api.Step) { x.Label += name })
			put(false, func(x *api.Step) { x.Key += name })
		}
		return l
	}
	for _, x := range []struct{ columns, plan string }{
		{"", "all 0 0; rel 0 0; where 0; where 1"}, {"", "label 0 0 A; where 1; rel 0 0; where 0"}, {"", "seek 0 0 A k; rel 0 0; where 1; where 0"}, {"", "all 0 1; rel 0 0 back; where 0; where 1"}, {"n-a", "bound 0 0; where 1; rel 0 0; where 0"},
	} {
		c, l := clause(t, one), steps(t, x.plan)
		if no := plan.Check(c, vars(x.columns), l...); no != api.OK {
			t.Fatal(x.plan, no)
		}
		for i := range l {
			for _, s := range spoilt(l[i]) {
				other := append([]api.Step(nil), l...)
				other[i] = s
				if no := plan.Check(c, vars(x.columns), other...); no != api.ErrPlan {
					t.Errorf("%s: %+v: %v", x.plan, s, no)
				}
				if got := told(plan.Choices(c, vars(x.columns), other[:i+1]...)); got != errPlan {
					t.Errorf("%s: %+v: %s", x.plan, s, got)
				}
			}
		}
	}
}

func TestPlain(t *testing.T) {
	for _, x := range []struct{ clause, columns, want string }{
		{one, "", "all 0 0; rel 0 0; where 0; where 1"},
		{one, "n-a", "bound 0 0; rel 0 0; where 0; where 1"},
		{one, "n-b", "all 0 0; rel 0 0; where 0; where 1"},
		{"()", "", "all 0 0"},
		{"(a), (a)", "", "all 0 0; bound 1 0"},
		{"(a:A {k: 1}), ()-->(a), (a)<--(b)-[r]-(c:C), (c)-->(a), (d)", "", "all 0 0; all 1 0; rel 1 0; bound 2 0; rel 2 0; rel 2 1; bound 3 0; rel 3 0; all 4 0"},
		{"(a), (b), (c) WHERE 1 / a.k = 1 AND b.k = 1 AND true", "n-b x", "all 0 0; bound 1 0; all 2 0; where 0; where 1; where 2"},
		{"OPTIONAL MATCH (a) WHERE a.k = 1 AND a.l = 1 AND 1 / 0 = 1", "", "all 0 0; where 0; where 1; where 2"},
		{"(a) WHERE true", "", "all 0 0; where 0"},
	} {
		c := clause(t, x.clause)
		got := told(plan.Plain(c, vars(x.columns)...))
		if got != x.want {
			t.Errorf("%s with %s: %s", x.clause, x.columns, got)
		}
		if no := plan.Check(c, vars(x.columns), steps(t, got)...); no != api.OK {
			t.Errorf("%s with %s: %v", x.clause, x.columns, no)
		}
	}
}

// refused asks all calls of a clause that may not be asked, with these columns.
func refused(t *testing.T, name string, c api.Clause, columns []api.Var) {
	t.Helper()
	for _, l := range [][]api.Step{nil, steps(t, "all 0 0"), {{Kind: 9}}} {
		if no := plan.Check(c, columns, l...); no != api.ErrArg {
			t.Errorf("Check, %s: %v", name, no)
		}
		if got := told(plan.Choices(c, columns, l...)); got != errArg {
			t.Errorf("Choices, %s: %s", name, got)
		}
	}
	if got := told(plan.Plain(c, columns...)); got != errArg {
		t.Errorf("Plain, %s: %s", name, got)
	}
	if got := told(plan.Pick(c, columns, 1, 2)); got != errArg {
		t.Errorf("Pick, %s: %s", name, got)
	}
}

func TestClausesThatMayNotBeAsked(t *testing.T) {
	for _, s := range []string{"CREATE (a)", "CREATE (a)-[r:T]->(b)", "UNWIND [1] AS y", "WITH 1 AS y", "RETURN 1 AS y", "SET x.k = 1", "REMOVE x.k", "DELETE x", "DETACH DELETE x"} {
		refused(t, s, clause(t, s), vars("n-x"))
	}
	for _, kind := range []api.ClauseKind{-1, api.ClauseReturn + 1, math.MaxInt, math.MinInt} {
		c := clause(t, "(a)")
		c.Kind = kind
		refused(t, "of no kind", c, nil)
	}
	for _, x := range []struct{ clause, columns string }{
		{"(x)", "x"}, {"(x)", "r-x"}, {"()-[x]->()", "x"}, {"()-[x]->()", "n-x"}, {"()-[x]->()", "r-x"}, {"(x)", "x n-x"}, {"(a)-[a]->()", ""}, {"()-[a]->(a)", ""}, {"()-[a]->(), ()-[a]->()", ""},
		{"(a {k: x})", ""}, {"(a {k: a.k})", ""}, {"(a)-[{k: b.k}]->(b)", ""}, {"(a) WHERE x", ""}, {"(a) WHERE f(a)", ""}, {"(a) WHERE count(*) = 1", ""}, {"(a) WHERE abs()", ""}, {"(a) WHERE true AND x.k = 1", "y"}, {"OPTIONAL MATCH (x)", "x"},
	} {
		refused(t, x.clause+" with "+x.columns, clause(t, x.clause), vars(x.columns))
	}
	a, b := api.NodePat{Var: "a"}, api.NodePat{Var: "b"}
	k, yes := api.Expr{Kind: api.ExprMap, Keys: []string{"k"}, Kids: make([]api.Expr, 1)}, api.Expr{Value: value.Bool(true)}
	twice := api.Expr{Kind: api.ExprMap, Keys: []string{"k", "k"}, Kids: make([]api.Expr, 2)}
	for name, c := range map[string]api.Clause{
		"no clause":               {},
		"a path of nothing":       {Paths: make([]api.Path, 1)},
		"a path of rels alone":    {Paths: []api.Path{{Rels: make([]api.RelPat, 1)}}},
		"a rel too few":           {Paths: []api.Path{{Nodes: []api.NodePat{a, b}}}},
		"a rel too much":          {Paths: []api.Path{{Nodes: []api.NodePat{a}, Rels: make([]api.RelPat, 1)}}},
		"a Dir of 2":              {Paths: []api.Path{{Nodes: []api.NodePat{a, b}, Rels: []api.RelPat{{Dir: 2}}}}},
		"Props without Has":       {Paths: []api.Path{{Nodes: []api.NodePat{{Labels: []string{"A"}, Props: k}}}}},
		"Props that are no map":   {Paths: []api.Path{{Nodes: []api.NodePat{{Labels: []string{"A"}, Has: true, Props: yes}}}}},
		"Props with a key twice":  {Paths: []api.Path{{Nodes: []api.NodePat{{Labels: []string{"A"}, Has: true, Props: twice}}}}},
		"a label that is no name": {Paths: []api.Path{{Nodes: []api.NodePat{{Labels: []string{""}}}}}},
		"a long Var":              {Paths: []api.Path{{Nodes: []api.NodePat{{Var: strings.Repeat("a", api.MaxName+1)}}}}},
		"Where without HasWhere":  {Paths: []api.Path{{Nodes: []api.NodePat{a}}}, Where: yes},
		"a Skip":                  {Paths: []api.Path{{Nodes: []api.NodePat{a}}}, HasSkip: true},
		"AND of one":              {Paths: []api.Path{{Nodes: []api.NodePat{a}}}, HasWhere: true, Where: api.Expr{Kind: api.ExprBin, Name: "AND", Kids: []api.Expr{yes}}},
		"many paths":              {Paths: make([]api.Path, api.MaxItems+1)},
	} {
		refused(t, name, c, nil)
	}
}
