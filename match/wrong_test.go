package match_test

import (
	"strings"
	"testing"

	"lattice/api"
	"lattice/graph"
	"lattice/match"
	"lattice/value"
)

// P8.1: what may not be handed in.

// refused asks Find, Kinds and Ways, which all answer the same error.
func refused(t *testing.T, name string, g *graph.Graph, p api.Place, c api.Clause, want api.Errno) {
	t.Helper()
	if l, no := match.Find(g, p, c); no != want || l != nil {
		t.Errorf("Find, %s: %v %v", name, l, no)
	}
	if l, no := match.Kinds(g, p, c); no != want || l != nil {
		t.Errorf("Kinds, %s: %v %v", name, l, no)
	}
	if n, no := match.Ways(g, p, c); no != want || n != 0 {
		t.Errorf("Ways, %s: %d %v", name, n, no)
	}
}

func TestNoGraph(t *testing.T) {
	made, _ := graph.Make(api.Graph{NextNode: -1})
	for _, g := range []*graph.Graph{nil, {}, made} {
		refused(t, "a clause", g, api.Place{}, clause(t, "(a)"), api.ErrNil)
		// It counts ahead of all else.
		refused(t, "another clause", g, api.Place{}, clause(t, "RETURN 1 AS x"), api.ErrNil)
		refused(t, "a row too long", g, api.Place{Row: make([]api.Value, 1)}, clause(t, "(a)"), api.ErrNil)
		refused(t, "a parameter", g, api.Place{}, clause(t, "(a {k: $p})"), api.ErrNil)
		refused(t, "no clause", g, api.Place{}, api.Clause{}, api.ErrNil)
	}
}

func TestOtherClauses(t *testing.T) {
	for _, s := range []string{"CREATE (a)", "CREATE (a)-[r:T]->(b)", "UNWIND [1] AS x", "WITH 1 AS x", "RETURN 1 AS x", "SET x.k = 1", "REMOVE x.k", "DELETE x", "DETACH DELETE x"} {
		refused(t, s, world(t), place("x", node(0)), clause(t, s), api.ErrArg)
	}
	for _, kind := range []api.ClauseKind{-1, api.ClauseReturn + 1, 1 << 40} {
		c := clause(t, "(a)")
		c.Kind = kind
		refused(t, "of no kind", world(t), api.Place{}, c, api.ErrArg)
	}
}

func TestRowsOfAnotherLength(t *testing.T) {
	for _, p := range []api.Place{{Row: []api.Value{node(0)}}, {Columns: []string{"a"}}, {Columns: []string{"a"}, Row: make([]api.Value, 2)}, {Columns: []string{"a", "b"}, Row: []api.Value{node(0)}}} {
		for _, s := range []string{"(a)", "(c)", "OPTIONAL MATCH (c:C)", "(c) WHERE true", "(c {k: 1 / 0})"} {
			refused(t, s, world(t), p, clause(t, s), api.ErrArg)
		}
	}
}

// Clauses that layer 6 refuses, with the columns as Kinds tells them.
func TestRefusedByLayer6(t *testing.T) {
	p := with(place("n", node(0), "r", rel(0), "x", value.Null(), "i", value.Int(1), "l", value.List(node(0)), "lost", node(4)), "p", value.Int(1))
	for _, s := range []string{
		"(r)", "(i)", "(l)", "(a)-->(r)", "(a), (i)", "(n)-->(n)-->(l)", // a node's Var is a column of another kind
		"()-[n]->()", "()-[r]->()", "()-[x]->()", "()-[i]->()", "()-[lost]->()", // a relationship's is one already
		"(a)-[a]->()", "()-[a]->(a)", "()-[a]->()-[a]->()", "()-[a]->(), ()-[a]->()", "()-[a]->(), (a)", "(x)-[x]->()", "()-[x]->(x)",
		"(a {k: a.k})", "(a), (b {k: a.k})", "(a)-[{k: a.k}]->()", "(a {k: nobody})", "(a)-[{k: nobody}]->()", // Props have the columns alone
		"(a {k: f(1)})", "(a {k: abs()})", "(a {k: count(*)})", "(a)-[{k: sum(1)}]->()", "(a {k: abs(DISTINCT 1)})",
		"OPTIONAL MATCH (r)",
	} {
		refused(t, s, world(t), p, clause(t, s), api.ErrArg)
		// Also where there are no ways.
		refused(t, s, plain(t, 0), p, clause(t, s), api.ErrArg)
	}
	for _, s := range []string{"(a) WHERE nobody", "(a) WHERE nobody.k = 1", "(a) WHERE f(1)", "(a) WHERE abs(1, 2) = 1", "(a) WHERE count(*) = 1", "(a:C) WHERE true OR max(1) = 1", "(a) WHERE false AND nobody"} {
		for _, g := range []*graph.Graph{world(t), plain(t, 0)} {
			if got := told(match.Find(g, p, clause(t, s))); got != "!arg" {
				t.Errorf("%s: %s", s, got)
			}
			if got := toldVars(match.Kinds(g, p, clause(t, s))); got != "!arg" {
				t.Errorf("%s: %s", s, got)
			}
		}
	}
	// What it lets be.
	hold(t, world(t), p, finds{"(a:C), (n), (x), (lost)", ""}, finds{"(a:C) WHERE n = i OR x.k = r.k AND l = lost", ""})
}

// Clauses that layer 4 refuses.
func TestRefusedByLayer4(t *testing.T) {
	a, two := api.NodePat{Var: "a"}, []api.NodePat{{Var: "a"}, {Var: "b"}}
	yes := api.Expr{Value: value.Bool(true)}
	mapped := api.Expr{Kind: api.ExprMap}
	of := func(paths ...api.Path) api.Clause { return api.Clause{Paths: paths} }
	many := make([]api.Path, api.MaxItems+1)
	for i := range many {
		many[i] = api.Path{Nodes: []api.NodePat{{}}}
	}
	for name, c := range map[string]api.Clause{
		"no paths":              of(),
		"a path of nothing":     of(api.Path{}),
		"a rel without nodes":   of(api.Path{Rels: make([]api.RelPat, 1)}),
		"a rel too much":        of(api.Path{Nodes: []api.NodePat{a}, Rels: make([]api.RelPat, 1)}),
		"a rel too few":         of(api.Path{Nodes: two}),
		"the second path":       of(api.Path{Nodes: []api.NodePat{a}}, api.Path{Nodes: two}),
		"a Dir too great":       of(api.Path{Nodes: two, Rels: []api.RelPat{{Dir: 2}}}),
		"a Dir too small":       of(api.Path{Nodes: two, Rels: []api.RelPat{{Dir: -2}}}),
		"Props without Has":     of(api.Path{Nodes: []api.NodePat{{Props: mapped}}}),
		"Props that are no map": of(api.Path{Nodes: []api.NodePat{{Has: true, Props: yes}}}),
		"a map's key too much":  of(api.Path{Nodes: []api.NodePat{{Has: true, Props: api.Expr{Kind: api.ExprMap, Keys: []string{"k"}}}}}),
		"a rel's Props":         of(api.Path{Nodes: two, Rels: []api.RelPat{{Has: true, Props: yes}}}),
		"a label of no name":    of(api.Path{Nodes: []api.NodePat{{Labels: []string{""}}}}),
		"a type of no UTF-8":    of(api.Path{Nodes: two, Rels: []api.RelPat{{Types: []string{"\xff"}}}}),
		"a Var of no UTF-8":     of(api.Path{Nodes: []api.NodePat{{Var: "\xff"}}}),
		"a long Var":            of(api.Path{Nodes: []api.NodePat{{Var: string(make([]byte, api.MaxName+1))}}}),
		"too many paths":        of(many...),
		"Distinct":              {Paths: []api.Path{{Nodes: []api.NodePat{a}}}, Distinct: true},
		"an Expr":               {Paths: []api.Path{{Nodes: []api.NodePat{a}}}, Expr: yes},
		"a Skip":                {Paths: []api.Path{{Nodes: []api.NodePat{a}}}, HasSkip: true, Skip: yes},
		"Items":                 {Paths: []api.Path{{Nodes: []api.NodePat{a}}}, Items: []api.Item{{Expr: yes}}},
		"Vars":                  {Paths: []api.Path{{Nodes: []api.NodePat{a}}}, Vars: []string{"a"}},
		"an Expr's parameter":   {Paths: []api.Path{{Nodes: []api.NodePat{a}}}, Expr: api.Expr{Kind: api.ExprParam, Name: "p"}},
		"a Limit's parameter":   {Paths: []api.Path{{Nodes: []api.NodePat{a}}}, Limit: api.Expr{Kind: api.ExprParam, Name: "q"}},
	} {
		refused(t, name, world(t), with(place("x", value.Int(1)), "p", value.Int(1)), c, api.ErrArg)
	}
	for name, where := range map[string]api.Expr{"no kind": {Kind: -1}, "AND of one": {Kind: api.ExprBin, Name: "AND", Kids: []api.Expr{yes}}, "a node": {Value: node(0)}} {
		c := clause(t, "(a:C)")
		c.HasWhere, c.Where = true, where
		if got := told(match.Find(world(t), api.Place{}, c)); got != "!arg" {
			t.Errorf("%s: %s", name, got)
		}
		c.HasWhere = false
		if got := told(match.Find(world(t), api.Place{}, c)); got != "!arg" {
			t.Errorf("%s without HasWhere: %s", name, got)
		}
	}
}

// Parameters that are named anywhere must be there, whether they would be asked or not.
func TestParametersThatAreNotThere(t *testing.T) {
	p := with(place("x", value.Int(1)), "p", value.Int(1), "p", value.Int(2), "", value.Int(3))
	for _, s := range []string{
		"(a {k: $q})", "(a:C {k: $q})", "(a)-[{w: $q}]->(b)", "(a)-->(b {k: $q})", "(a), (b {k: $q})", "(a {k: [1, {x: abs(1 + $q)}]})",
		"(a {k: CASE WHEN true THEN 1 ELSE $q END})", "(a {k: coalesce(1, $q)})", "(a {k: $p, l: $q})", "(a {k: $P})",
		"(a {k: 1 / 0}), (b {k: $q})", "(a {k: 1 / 0, l: $q})", "OPTIONAL MATCH (a:C {k: $q})", "(a {k: $x})",
	} {
		refused(t, s, world(t), p, clause(t, s), api.ErrArg)
		refused(t, s, plain(t, 0), p, clause(t, s), api.ErrArg)
	}
	for _, s := range []string{"(a) WHERE $q", "(a:C) WHERE $q", "(a:C) WHERE false AND a.k = $q", "(a) WHERE true OR $q", "(a {k: 1 / 0}) WHERE a.k = $q", "OPTIONAL MATCH (a:C) WHERE $q = 1"} {
		for _, g := range []*graph.Graph{world(t), plain(t, 0)} {
			if got := told(match.Find(g, p, clause(t, s))); got != "!arg" {
				t.Errorf("%s: %s", s, got)
			}
			if got := toldVars(match.Kinds(g, p, clause(t, s))); got != "!arg" {
				t.Errorf("%s: %s", s, got)
			}
		}
	}
	// Of two of one name the first one counts.
	hold(t, world(t), p, finds{"(a {k: $p})", "1 n0;1 n2;"}, finds{"(a) WHERE a.k = $p", "1 n0;1 n2;"})
}

// Values that may not be are ErrArg, in whatever column or parameter, whether Props or a Where ask for them or nothing does, with ways or without.
func TestValuesThatMayNotBe(t *testing.T) {
	one := value.Int(1)
	for name, v := range badValues() {
		for where, p := range map[string]api.Place{
			"a column":               place("x", v),
			"the first column":       place("x", v, "y", one),
			"the last column":        place("y", one, "x", v),
			"a column of no name":    place("", v),
			"a second column":        place("x", one, "x", v),
			"a node's column":        place("a", v),
			"a parameter":            with(api.Place{}, "q", v),
			"the last parameter":     with(place("x", one), "p", one, "q", v),
			"a second parameter":     with(place("x", one), "q", one, "q", v),
			"a parameter of no name": with(place("x", one), "", v),
			"both":                   with(place("x", v), "q", v),
		} {
			for _, s := range []string{
				"(a)", "()", "(a), (b)", "(:B)-->(b)", "(a)-[r]-(a)", "(a:C)", "(a:C)-->(b)", "OPTIONAL MATCH (a)", "OPTIONAL MATCH (a:C)",
				"(a {k: 1})", "(a:C {})", "(a)-[{w: 1}]->(b)", "(a {k: 1 / 0})", "(a {k: 1 + 'x'}), (b)",
				"(a) WHERE true", "(a) WHERE null", "(a) WHERE 1 / 0", "(a:C) WHERE true", "(a:C) WHERE 1 / 0", "(a:A)-->() WHERE a.k = 1", "OPTIONAL MATCH (a:A) WHERE false", "OPTIONAL MATCH (a:C) WHERE false",
			} {
				for _, g := range []*graph.Graph{world(t), plain(t, 0)} {
					refused(t, name+", "+where+", "+s, g, p, clause(t, s), api.ErrArg)
				}
			}
			refused(t, name+", "+where+", no graph", nil, p, clause(t, "(a)"), api.ErrNil)
		}
	}
	// One that has more than a node has is none, though its Kind and its number are a node's.
	refused(t, "more than a node", world(t), place("a", api.Value{Kind: api.ValueNode, Int: 1, Text: "x"}), clause(t, "(a)-->(b)"), api.ErrArg)
	// Too many ways count behind it.
	many := plain(t, 300)
	refused(t, "many ways", many, place("x", value.String("\xff")), clause(t, "(a), (b)"), api.ErrArg)
	refused(t, "many ways", many, with(api.Place{}, "q", value.String("\xff")), clause(t, "(a), (b) WHERE true"), api.ErrArg)
}

// Values that just may be stand in the row as they are.
func TestValuesThatMayBe(t *testing.T) {
	deep := value.Null()
	for range api.MaxDepth - 1 {
		deep = value.List(deep)
	}
	g := world(t)
	for name, v := range map[string]api.Value{
		"nothing":          value.Null(),
		"a truth":          value.Bool(true),
		"a number":         value.Int(-1 << 63),
		"a node":           node(1 << 62),
		"a relationship":   rel(0),
		"as long a text":   value.String(strings.Repeat("t", api.MaxText)),
		"as long a list":   {Kind: api.ValueList, List: make([]api.Value, api.MaxRows)},
		"as deep a list":   deep,
		"a map":            {Kind: api.ValueMap, Keys: []string{"", "k"}, List: []api.Value{deep.List[0], node(0)}},
		"lists of nothing": {Kind: api.ValueText, Keys: []string{}, List: []api.Value{}},
	} {
		for where, p := range map[string]api.Place{"a column": place("x", v), "a parameter": with(place("x", value.Int(1)), "q", v)} {
			for s, want := range map[string]int{"(a:A)": 2, "(a:A {})": 2, "(a:A) WHERE true": 2, "(a:C)": 0} {
				l, no := match.Find(g, p, clause(t, s))
				if no != api.OK || len(l) != want || want > 0 && !value.Same(l[0][0], p.Row[0]) {
					t.Errorf("Find, %s, %s, %s: %d %v", name, where, s, len(l), no)
				}
				if n, no := match.Ways(g, p, clause(t, s)); no != api.OK || n != want {
					t.Errorf("Ways, %s, %s, %s: %d %v", name, where, s, n, no)
				}
				if l, no := match.Kinds(g, p, clause(t, s)); no != api.OK || len(l) != 1 || l[0].Name != "x" {
					t.Errorf("Kinds, %s, %s, %s: %v %v", name, where, s, l, no)
				}
			}
		}
	}
}
