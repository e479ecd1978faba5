package plan_test

import (
	"math"
	"slices"
	"testing"

	"lattice/api"
	"lattice/plan"
)

// P13.3: Choices, Pick, Text.

func TestChoices(t *testing.T) {
	for _, x := range []struct{ clause, columns, ahead, want string }{
		{one, "", "", "all 0 0; all 0 1; label 0 0 A; seek 0 0 A k"},
		{one, "", "seek 0 0 A k", "all 0 1; rel 0 0; where 1"},
		{one, "", "all 0 1", "all 0 0; label 0 0 A; seek 0 0 A k; rel 0 0 back; where 0"},
		{one, "", "all 0 1; label 0 0 A; where 1", "rel 0 0; rel 0 0 back; where 0"},
		{one, "", "all 0 0; rel 0 0", "where 0; where 1"},
		{one, "", "all 0 0; rel 0 0; where 0", "where 1"},
		{one, "", "all 0 0; rel 0 0; where 1; where 0", ""},
		{one, "", "rel 0 0", errPlan}, {one, "", "all 0 0; where 0", errPlan}, {one, "", "all 0 0; all 0 0", errPlan}, {one, "", "all 0 0; rel 0 0; where 0; where 1; where 1", errPlan}, {one, "", "label 0 1 A", errPlan}, {one, "", "bound 0 0", errPlan}, {one, "", "all 0 0; rel 0 0; all 0 1", errPlan}, {one, "", "where 2", errPlan},
		{one, "n-a n-b", "", "bound 0 0; bound 0 1; where 0; where 1"},
		{one, "n-a n-b", "bound 0 0; bound 0 1; rel 0 0 back; where 0; where 1", ""},
		{one, "n-b", "all 0 1", errPlan},
		{"()", "", "", "all 0 0"}, {"()", "", "all 0 0", ""}, {"()", "", "all 0 0; all 0 0", errPlan},
		// Labels and keys rise, each once, whatever order they stand in.
		{"(:C:A:C:B:A)", "", "", "all 0 0; label 0 0 A; label 0 0 B; label 0 0 C"},
		{"(:B:A {z: 1, m: 2}), (:C {k: 1}), ({k: 1})", "", "", "all 0 0; all 1 0; all 2 0; label 0 0 A; label 0 0 B; label 1 0 C; seek 0 0 A m; seek 0 0 A z; seek 0 0 B m; seek 0 0 B z; seek 1 0 C k"},
		{"(a)-->()-->(a), (b)<--(a)", "", "", "all 0 0; all 0 1; all 0 2; all 1 0; all 1 1"},
		{"(a)-->()-->(a), (b)<--(a)", "", "all 1 1", "all 0 1; all 1 0; bound 0 0; bound 0 2; rel 1 0 back"},
		{"(a)-->()-->(a), (b)<--(a)", "", "all 1 1; rel 1 0 back; bound 0 2; bound 0 0", "all 0 1; rel 0 0; rel 0 1 back"},
		{"(a)-->()-->(a), (b)<--(a)", "", "all 1 1; rel 1 0 back; bound 0 2; bound 0 0; all 0 1; rel 0 1", "rel 0 0; rel 0 0 back"},
		// What may go wrong is asked in order, behind all that may not.
		{"(a) WHERE true AND $p AND a.k = 1 AND false", "", "", "all 0 0; where 0"},
		{"(a) WHERE true AND $p AND a.k = 1 AND false", "", "all 0 0", "where 0"},
		{"(a) WHERE true AND $p AND a.k = 1 AND false", "", "where 0; all 0 0", "where 1"},
		{"(a) WHERE true AND $p AND a.k = 1 AND false", "", "where 0; all 0 0; where 1; where 2", "where 3"},
		{"(a)-[r]->(b) WHERE r.w = 1 AND a.k = b.k AND x = 1", "x", "all 0 1", "all 0 0; rel 0 0 back; where 2"},
		{"(a)-[r]->(b) WHERE r.w = 1 AND a.k = b.k AND x = 1", "x", "all 0 1; all 0 0", "rel 0 0; rel 0 0 back; where 1; where 2"},
	} {
		c, v := clause(t, x.clause), vars(x.columns)
		if got := told(plan.Choices(c, v, steps(t, x.ahead)...)); got != x.want {
			t.Errorf("%s with %s behind %s: %s", x.clause, x.columns, x.ahead, got)
		}
	}
}

func TestPick(t *testing.T) {
	for _, x := range []struct {
		clause, columns string
		picks           []int
		want            string
	}{
		{one, "", nil, "all 0 0; all 0 1; rel 0 0; where 0; where 1"},
		{one, "", []int{0, 0, 0, 0, 0, 7, 7}, "all 0 0; all 0 1; rel 0 0; where 0; where 1"},
		{one, "", []int{3, 2, 1}, "seek 0 0 A k; where 1; rel 0 0; where 0"},
		{one, "", []int{7, -1, -4, 5}, "seek 0 0 A k; where 1; all 0 1; where 0; rel 0 0"},
		{one, "", []int{-3, 3}, "all 0 1; rel 0 0 back; where 0; where 1"},
		{one, "", []int{1 + 4*1000, 4 - 5*1000, 1 - 2*1000}, "all 0 1; where 0; label 0 0 A; rel 0 0; where 1"},
		{one, "", []int{2}, "label 0 0 A; all 0 1; rel 0 0; where 0; where 1"},
		{one, "n-a", []int{1}, "bound 0 0; all 0 1; rel 0 0; where 0; where 1"},
		{"()", "", []int{math.MaxInt, math.MinInt}, "all 0 0"},
		{"(a), (b), (c)", "", []int{math.MinInt, math.MaxInt}, "all 1 0; all 2 0; all 0 0"}, // modulo 3: 1; modulo 2: 1
	} {
		c, v := clause(t, x.clause), vars(x.columns)
		if got := told(plan.Pick(c, v, x.picks...)); got != x.want {
			t.Errorf("%s with %s by %v: %s", x.clause, x.columns, x.picks, got)
		}
	}
}

// Each plan that may be is picked by the places of its steps among the Choices.
func TestEachPlanIsPicked(t *testing.T) {
	c := clause(t, "(a:A {k: 1})-[r]-(b), (b) WHERE b.x = 2 AND a.y = 3 AND 1 / a.y = 0")
	r, _ := rulesOf(c, nil, nil)
	r.plans(func(l []api.Step) {
		var picks []int
		for i, s := range l {
			choices, no := plan.Choices(c, nil, l[:i]...)
			if no != api.OK {
				t.Fatal(line(l[:i]), no)
			}
			picks = append(picks, slices.Index(choices, s)-len(choices)*(i%2))
		}
		if got := told(plan.Pick(c, nil, picks...)); got != line(l) {
			t.Fatalf("%v: %s, not %s", picks, got, line(l))
		}
	})
}

func TestText(t *testing.T) {
	for _, x := range []struct {
		step api.Step
		want string
	}{
		{api.Step{}, "all 0 0"},
		{api.Step{Kind: api.StepAll, Path: 3, Part: 12, Back: true, Label: "A", Key: "k", Cond: 7}, "all 3 12"},
		{api.Step{Kind: api.StepLabel, Path: 3, Part: 12, Back: true, Label: "A", Key: "k", Cond: 7}, "label 3 12 A"},
		{api.Step{Kind: api.StepSeek, Path: 3, Part: 12, Back: true, Label: "A", Key: "k", Cond: 7}, "seek 3 12 A k"},
		{api.Step{Kind: api.StepBound, Path: 3, Part: 12, Back: true, Label: "A", Key: "k", Cond: 7}, "bound 3 12"},
		{api.Step{Kind: api.StepRel, Path: 3, Part: 12, Label: "A", Key: "k", Cond: 7}, "rel 3 12"},
		{api.Step{Kind: api.StepRel, Path: 3, Part: 12, Back: true, Label: "A", Key: "k", Cond: 7}, "rel 3 12 back"},
		{api.Step{Kind: api.StepWhere, Path: 3, Part: 12, Back: true, Label: "A", Key: "k", Cond: 7}, "where 7"},
		{api.Step{Kind: 6, Path: 3, Part: 12, Back: true, Label: "A", Key: "k", Cond: 7}, "? 3 12"},
		{api.Step{Kind: -1, Path: math.MinInt, Part: math.MaxInt}, "? -9223372036854775808 9223372036854775807"},
		{api.Step{Kind: api.StepWhere, Cond: -1}, "where -1"},
		{api.Step{Kind: api.StepSeek, Label: "a b", Key: "match"}, "seek 0 0 a b match"},
	} {
		if got := plan.Text(x.step); got != x.want+"\n" {
			t.Errorf("%+v: %q", x.step, got)
		}
		if got := plan.Text(x.step, api.Step{Kind: api.StepBound}, x.step); got != x.want+"\nbound 0 0\n"+x.want+"\n" {
			t.Errorf("%+v: %q", x.step, got)
		}
	}
	if got := plan.Text(); got != "" {
		t.Errorf("%q", got)
	}
}
