package planner_test

import (
	"slices"
	"strconv"
	"strings"
	"testing"

	"lattice/api"
	"lattice/plan"
	"lattice/planner"
	"lattice/value"
)

// Clauses of many parts, of many conditions, of many choices; a great many tries: each call ends soon.

// allOf is an AND of so many conditions that are the same, nested no deeper than need be.
func allOf(n int, one api.Expr) api.Expr {
	if n == 1 {
		return one
	}
	return api.Expr{Kind: api.ExprBin, Name: "AND", Kids: []api.Expr{allOf(n/2, one), allOf(n-n/2, one)}}
}

// free may be asked ahead of all, of b behind what gives b, late behind all else.
func free() api.Expr { return api.Expr{Value: value.Bool(true)} }

func ofB() api.Expr {
	return api.Expr{Kind: api.ExprIsNull, Kids: []api.Expr{{Kind: api.ExprVar, Name: "b"}}}
}

func late() api.Expr { return api.Expr{Kind: api.ExprParam, Name: "p"} }

// where is a clause of some paths, with so many conditions, and behind them so many late ones.
func where(t *testing.T, paths string, n int, one api.Expr, lates int) api.Clause {
	c := clause(t, paths)
	c.HasWhere = n+lates > 0
	switch {
	case n == 0 && lates > 0:
		c.Where = allOf(lates, late())
	case n > 0:
		c.Where = allOf(n, one)
		if lates > 0 {
			c.Where = api.Expr{Kind: api.ExprBin, Name: "AND", Kids: []api.Expr{c.Where, allOf(lates, late())}}
		}
	}
	return c
}

// wheres are steps that ask conditions, from one on up to another one.
func wheres(from, to int) (l []api.Step) {
	for i := from; i < to; i++ {
		l = append(l, api.Step{Kind: api.StepWhere, Cond: i})
	}
	return l
}

// Just MaxTries tries, and one more: each late condition is one.
func TestMaxTries(t *testing.T) {
	for n, all := range map[int]bool{1: true, 1000: true, api.MaxTries - 1: true, api.MaxTries: false, api.MaxTries + 1: false} {
		l, got, no := planner.Best(where(t, "(b)", 0, free(), n), nil, counts(t, many), api.MaxTries)
		if got != all || no != api.OK || !slices.Equal(l, append([]api.Step{{}}, wheres(0, n)...)) {
			t.Error(n, got, no, len(l))
		}
	}
}

// Conditions that are left when all parts are given are just as many tries as going through them one by one is.
func TestTriesOfConditions(t *testing.T) {
	for _, x := range []struct {
		early       api.Expr
		n, m, tries int
	}{
		{free(), 0, 0, 2}, {free(), 0, 1, 4}, {free(), 0, 7, 16}, {free(), 1, 0, 7}, {free(), 1, 1, 11}, {free(), 2, 0, 26}, {free(), 2, 3, 62}, {free(), 3, 0, 113}, {free(), 3, 4, 305},
		{ofB(), 1, 0, 4}, {ofB(), 1, 1, 6}, {ofB(), 2, 0, 10}, {ofB(), 2, 3, 22}, {ofB(), 3, 0, 32}, {ofB(), 3, 4, 80}, {ofB(), 7, 0, 27400}, {ofB(), 6, 6, 12554},
	} {
		c := where(t, "(b:B)", x.n, x.early, x.m)
		for _, by := range []string{"", many, "nodes 1; label B 1", "nodes 5; label B 5"} {
			w := words{c, nil, counts(t, by)}
			best, tries := w.best(api.MaxTries)
			if tries != x.tries {
				t.Errorf("%+v by %s: by the words %d", x, by, tries)
			}
			for n, want := range map[int]string{tries - 1: line(w.greedy()) + " of some", tries: line(best) + " of all", tries + 1: line(best) + " of all"} {
				if got := toldBest(planner.Best(c, nil, w.counts, n)); got != want {
					t.Errorf("%+v by %s in %d: %s, not %s", x, by, n, got, want)
				}
			}
		}
	}
}

func TestManyConditions(t *testing.T) {
	const n = 1500
	s := counts(t, many)
	b := api.Step{Kind: api.StepLabel, Label: "B"}
	second := b
	second.Path = 1
	for _, x := range []struct {
		c    api.Clause
		want []api.Step
	}{
		{where(t, "(b:B)", 0, free(), n), slices.Concat([]api.Step{b}, wheres(0, n))},
		{where(t, "(b:B)", n, ofB(), 0), slices.Concat([]api.Step{b}, wheres(0, n))},
		// Of one row a condition is less work than any part.
		{where(t, "(b:B)", n, free(), 0), slices.Concat(wheres(0, n), []api.Step{b})},
		{where(t, "(b:B)", n, free(), n), slices.Concat(wheres(0, n), []api.Step{b}, wheres(n, 2*n))},
		{where(t, "(a:A), (b:B)", n, ofB(), n), slices.Concat([]api.Step{second}, wheres(0, n), []api.Step{{Kind: api.StepLabel, Label: "A"}}, wheres(n, 2*n))},
	} {
		l, no := planner.Greedy(x.c, nil, s)
		if no != api.OK || !slices.Equal(l, x.want) || plan.Check(x.c, nil, l...) != api.OK {
			t.Errorf("%v: %.80s", no, line(l))
		}
		l, all, no := planner.Best(x.c, nil, s, 2000)
		if no != api.OK || all || !slices.Equal(l, x.want) {
			t.Errorf("%v, %v: %.80s", no, all, line(l))
		}
		if rows, no := planner.Rows(x.c, nil, s, l...); no != api.OK || len(rows) != len(l) {
			t.Error(no, len(rows))
		}
	}
}

// As many parts as may be.
func TestManyParts(t *testing.T) {
	const n, fewer = api.MaxItems, 300
	s := counts(t, many)
	for _, x := range []struct{ clause, begin, end string }{
		// Relationships of which there are none leave no rows: then all choices are as good, and those of nodes' parts are told first.
		{"(n0)" + strings.Repeat("-[:Z]->()", n), "all 0 0; rel 0 0; all 0 2; all 0 3; all 0 4", "rel 0 998; rel 0 999"},
		// Where all work is cut, all choices are as good too.
		{"(:A {k: 1})" + strings.Repeat(", (:A {k: 1})", fewer-1), "seek 0 0 A k; seek 1 0 A k; seek 2 0 A k; seek 3 0 A k", "all 298 0; all 299 0"},
		{"(a)" + strings.Repeat("<-[:T]-(:B)", fewer), "label 0 1 B; label 0 2 B; rel 0 1 back; label 0 3 B; rel 0 2 back", "rel 0 299 back; rel 0 0 back"},
	} {
		c := clause(t, x.clause)
		l, no := planner.Greedy(c, nil, s)
		if got := line(l); no != api.OK || plan.Check(c, nil, l...) != api.OK || !strings.HasPrefix(got, x.begin) || !strings.HasSuffix(got, x.end) {
			t.Errorf("%.40s: %.80s .. %s, %v", x.clause, got, got[max(0, len(got)-40):], no)
		}
		best, all, no := planner.Best(c, nil, s, api.MaxTries)
		if !slices.Equal(best, l) || all || no != api.OK {
			t.Errorf("%.40s: %v, %v", x.clause, all, no)
		}
		if rows, no := planner.Rows(c, nil, s, l...); no != api.OK || len(rows) != len(l) {
			t.Errorf("%.40s: %v", x.clause, no)
		}
	}
}

// A part of many labels and keys, each label with each key a choice.
func TestManyChoices(t *testing.T) {
	var labels, keys strings.Builder
	s := api.Stats{Nodes: 1000, Rels: 1000, Types: []api.TypeCount{{Type: "T", Rels: 1000}}}
	for i := range 100 {
		name := strconv.Itoa(i)
		labels.WriteString(":L" + name)
		keys.WriteString(", k" + name + ": 1")
		s.Labels = append(s.Labels, api.LabelCount{Label: "L" + name, Nodes: int64(1000 - i)})
		s.Ends = append(s.Ends, api.EndCount{Type: "T", Label: "L" + name, Out: true, Rels: int64(10000 - 10*i)})
	}
	c := clause(t, "("+labels.String()+" {"+keys.String()[2:]+"})-[:T]->()")
	rows := func(nodes int64) (l []api.KeyCount) {
		for i := range 5 {
			for j := range 100 {
				l = append(l, api.KeyCount{Label: "L" + strconv.Itoa(i), Key: "k" + strconv.Itoa(j), Nodes: nodes, Values: 3})
			}
		}
		return l
	}
	for _, x := range []struct {
		keys []api.KeyCount
		want string
	}{
		{nil, "seek 0 0 L0 k0; all 0 1; rel 0 0"},
		{rows(900), "seek 0 0 L10 k0; all 0 1; rel 0 0"}, // of those of which nothing is told the first, by labels that rise as texts
	} {
		s.Keys = x.keys
		if got := told(planner.Greedy(c, nil, s)); got != x.want {
			t.Errorf("%d: %s", len(x.keys), got)
		}
		if got := toldBest(planner.Best(c, nil, s, api.MaxTries)); got != x.want+" of some" {
			t.Errorf("%d: %s", len(x.keys), got)
		}
	}
	if got := reckoned(c, nil, s, steps(t, "label 0 0 L99; rel 0 0")); got != "901 9010, 9911" {
		t.Error(got)
	}
}

// Parts that have nothing to do with each other, in any order: 8 of them are more than MaxTries.
func TestManyOrders(t *testing.T) {
	for n, all := range map[int]bool{5: true, 7: true, 8: false, 9: false, 30: false} {
		l, got, no := planner.Best(clause(t, "()"+strings.Repeat(", ()", n-1)), nil, counts(t, many), api.MaxTries)
		if got != all || no != api.OK || len(l) != n || l[0] != (api.Step{}) || l[n-1] != (api.Step{Path: n - 1}) {
			t.Error(n, got, no, line(l))
		}
	}
}
