package planner_test

import (
	"strings"
	"testing"

	"lattice/api"
	"lattice/planner"
)

// P15.3: Text.

func TestText(t *testing.T) {
	for _, x := range []struct{ clause, columns, by, plan, want string }{
		{one, "", oneCounts, "all 0 0; rel 0 0", "all 0 0 100\nrel 0 0 200\n"},
		{one, "", oneCounts, "label 0 0 A; rel 0 0", "label 0 0 A 10\nrel 0 0 20\n"},
		{one, "", oneCounts, "seek 0 0 A k; rel 0 0", "seek 0 0 A k 2\nrel 0 0 4\n"},
		{one, "", oneCounts, "all 0 1; rel 0 0 back", "all 0 1 100\nrel 0 0 back 100\n"},
		// Steps of all kinds.
		{"(a:A {k: 1})-[r:T]->(b:B), (b)--(n), (:A) WHERE a.k = b.k AND n.k = 1 AND 1 / a.k = 1", "n-n", many, "where 1; seek 0 0 A k; rel 0 0; bound 1 0; bound 1 1; where 0; rel 1 0 back; label 2 0 A; where 2", "where 1 1\nseek 0 0 A k 2\nrel 0 0 10\nbound 1 0 10\nbound 1 1 10\nwhere 0 5\nrel 1 0 back 1\nlabel 2 0 A 10\nwhere 2 5\n"},
		{"(a)", "", "", "all 0 0", "all 0 0 0\n"}, {"(a)", "", "nodes -7", "all 0 0", "all 0 0 0\n"}, {"(a), (b)", "", "nodes 9223372036854775807", "all 1 0; all 0 0", "all 1 0 4611686018427387904\nall 0 0 4611686018427387904\n"},
		// Names stand as they are.
		{"(:`a b` {`match`: 1})", "", many, "all 0 0", "all 0 0 100\n"},
	} {
		if got := toldText(planner.Text(clause(t, x.clause), vars(x.columns), counts(t, x.by), steps(t, x.plan)...)); got != x.want {
			t.Errorf("%s by %s: %q, not %q", x.clause, x.by, got, x.want)
		}
	}
	c := clause(t, "(:`a b`:`x\n`:`é` {`match`: 1, `k\n\n`: 2})")
	s := api.Stats{Nodes: 20, Labels: []api.LabelCount{{Label: "a b", Nodes: 3}, {Label: "x\n", Nodes: 5}}, Keys: []api.KeyCount{{Label: "x\n", Key: "k\n\n", Nodes: 7, Values: 7}, {Label: "é", Key: "match", Nodes: 9, Values: 2}}}
	for want, step := range map[string]api.Step{
		"label 0 0 a b 3\n":      {Kind: api.StepLabel, Label: "a b"},
		"label 0 0 x\n 5\n":      {Kind: api.StepLabel, Label: "x\n"},
		"seek 0 0 x\n k\n\n 1\n": {Kind: api.StepSeek, Label: "x\n", Key: "k\n\n"},
		"seek 0 0 é match 5\n":   {Kind: api.StepSeek, Label: "é", Key: "match"},
		"seek 0 0 a b match 0\n": {Kind: api.StepSeek, Label: "a b", Key: "match"},
		"seek 0 0 a b k\n\n 0\n": {Kind: api.StepSeek, Label: "a b", Key: "k\n\n"},
		"label 0 0 é 0\n":        {Kind: api.StepLabel, Label: "é"},
		"all 0 0 20\n":           {},
		"seek 0 0 x\n match 0\n": {Kind: api.StepSeek, Label: "x\n", Key: "match"},
		"seek 0 0 é k\n\n 0\n":   {Kind: api.StepSeek, Label: "é", Key: "k\n\n"},
	} {
		if got := toldText(planner.Text(c, nil, s, step)); got != want {
			t.Errorf("%+v: %q", step, got)
		}
	}
}

// Each line is layer 13's, a blank, the rows: so the lines put together are its text of the plan.
func TestLines(t *testing.T) {
	c := clause(t, "(a:A {k: 1})-[r:T]->(b:B)<--(c), (d:B) WHERE a.k = b.k AND d.k = 1")
	l, no := planner.Greedy(c, nil, counts(t, many))
	if no != api.OK || len(l) != 7 {
		t.Fatal(line(l), no)
	}
	rows, _ := planner.Rows(c, nil, counts(t, many), l...)
	var want []string
	for i, s := range strings.Split(line(l), "; ") {
		want = append(want, s+" "+numbers(rows[i])+"\n")
	}
	if got := toldText(planner.Text(c, nil, counts(t, many), l...)); got != strings.Join(want, "") {
		t.Error(got)
	}
}
