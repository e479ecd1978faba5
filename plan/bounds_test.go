package plan_test

import (
	"strconv"
	"strings"
	"testing"

	"lattice/api"
	"lattice/graph"
	"lattice/plan"
	"lattice/value"
)

// chain is a graph of so many nodes, each with its number as k, and a relationship from each to the next one.
func chain(t *testing.T, nodes int, rels bool) *graph.Graph {
	t.Helper()
	a := api.Graph{NextNode: int64(nodes), NextRel: int64(nodes)}
	for i := range int64(nodes) {
		a.Nodes = append(a.Nodes, api.Node{ID: i, Labels: []string{"N"}, Props: []api.Prop{{Key: "k", Value: value.Int(i)}}})
		if rels && i > 0 {
			a.Rels = append(a.Rels, api.Rel{ID: i - 1, From: i - 1, To: i, Type: "T"})
		}
	}
	g, no := graph.Make(a)
	if no != api.OK {
		t.Fatal(no)
	}
	return g
}

// P13.2: MaxRows rows are found, one more goes wrong, whatever the plan; so does what goes wrong behind them.
func TestMaxRows(t *testing.T) {
	g, more := chain(t, 256, false), chain(t, 257, false)
	for _, x := range []struct{ clause, plan string }{
		{"(a), (b)", "all 0 0; all 1 0"}, {"(b:N), (a:N)", "label 1 0 N; all 0 0"}, {"OPTIONAL MATCH (a), (b) WHERE true AND a.k >= 0", "all 1 0; where 0; all 0 0; where 1"},
	} {
		c, l := clause(t, x.clause), steps(t, x.plan)
		got, no := plan.Find(g, api.Place{}, c, l...)
		if no != api.OK || len(got) != api.MaxRows || got[256][0].Int != 1 || got[256][1].Int != 0 || got[257][1].Int != 1 {
			t.Error(x.clause, len(got), no)
		}
		if got, no := plan.Find(more, api.Place{}, c, l...); no != api.ErrWrong || got != nil {
			t.Error(x.clause, len(got), no)
		}
	}
	// Just as many, and just one more.
	for text, want := range map[string]api.Errno{"b.k < 1": api.OK, "b.k < 2": api.ErrWrong} {
		c := clause(t, "(a), (b) WHERE a.k < 255 OR a.k = 255 AND "+text)
		l, no := plan.Find(more, api.Place{}, c, steps(t, "all 1 0; all 0 0; where 0")...)
		if no != want || no == api.OK && len(l) != api.MaxRows {
			t.Error(text, len(l), no)
		}
	}
	for _, x := range []finds{
		{"(a), (b) WHERE a.k < 256 AND b.k > 0", "all 0 0; all 1 0; where 0; where 1", ""}, {"(a), (b) WHERE a.k < 256 AND b.k > 0", "all 1 0; where 1; all 0 0; where 0", ""}, {"(a), (b) WHERE (a.k + b.k) % 2 = 0", "all 0 0; all 1 0; where 0", ""},
		{"(a), (b) WHERE 1 / (512 - a.k - b.k) >= 0", "all 0 0; all 1 0; where 0", errWrong}, {"(a), (b) WHERE a.k < 256 AND b.k > 0 AND (a.k < 255 OR b.k < 256 OR 1 / 0 = 1)", "all 0 0; all 1 0; where 0; where 1; where 2", errWrong},
	} {
		l, no := plan.Find(more, api.Place{}, clause(t, x.clause), steps(t, x.plan)...)
		if (no == api.OK) != (x.want == "") || no != api.OK && no != api.ErrWrong || no == api.OK && len(l) < api.MaxRows/2 {
			t.Error(x.clause, len(l), no)
		}
	}
}

// Behind MaxRows rows nothing is looked for, nor where some part fits no node.
func TestNoMoreIsLookedForThanNeedBe(t *testing.T) {
	g := chain(t, api.MaxElements, false)
	hold(t, g, place("x", value.Null(), "y", node(7)),
		finds{"(a), (b), (c)", "all 0 0; all 1 0; all 2 0", errWrong},
		finds{"(a), (b), (c:C)", "all 0 0; all 1 0; all 2 0", ""},
		finds{"(a), (b), (c:C)", "all 0 0; all 1 0; label 2 0 C", ""},
		finds{"(a), (b), (c:N {k: -1})", "all 0 0; all 1 0; seek 2 0 N k", ""},
		finds{"(a), (b), (x)", "all 0 0; all 1 0; bound 2 0", ""},
		finds{"(a), (b), (c)-->(x)", "all 0 0; all 1 0; all 2 0; rel 2 0", ""},
		finds{"OPTIONAL MATCH (a), (b), (c)-->(y:C)", "all 0 0; all 1 0; all 2 0; rel 2 0", "null n7 null null null;"},
	)
}

// As many parts as may be in one path, from its left end, from its right one, and from between.
func TestLongPaths(t *testing.T) {
	const most = api.MaxItems
	g := chain(t, most+2, true)
	c := clause(t, "(a)"+strings.Repeat("-->()", most-1)+"-->(b) WHERE b.k = "+strconv.Itoa(most+1))
	plain, no := plan.Plain(c)
	if no != api.OK || len(plain) != most+2 {
		t.Fatal(len(plain), no)
	}
	right, between := "all 0 1000; where 0", "all 0 500"
	for i := range most {
		right += "; rel 0 " + strconv.Itoa(most-1-i) + " back"
		at := most/2 + i/2
		if i%2 == 1 {
			between += "; rel 0 " + strconv.Itoa(most-1-at) + " back"
		} else {
			between += "; rel 0 " + strconv.Itoa(at)
		}
	}
	for _, l := range [][]api.Step{plain, steps(t, right), steps(t, between+"; where 0")} {
		if got := rows(plan.Find(g, api.Place{}, c, l...)); got != "n1 n1001;" {
			t.Error(got)
		}
	}
	picked, no := plan.Pick(c, nil, 1000, -1)
	if no != api.OK || line(picked[:3]) != "all 0 1000; where 0; all 0 0" || plan.Check(c, nil, picked...) != api.OK {
		t.Error(no, len(picked))
	}
	if no := plan.Check(c, nil, picked[1:]...); no != api.ErrPlan {
		t.Error(no)
	}
}

// A great many parts in all.
func TestManyPaths(t *testing.T) {
	const paths, each = 20, api.MaxItems
	g := chain(t, paths*each+1, true)
	var b strings.Builder
	for i := range paths {
		b.WriteString(", (v" + strconv.Itoa(i) + ")" + strings.Repeat("-->()", each-1) + "-->(v" + strconv.Itoa(i+1) + ")")
	}
	c, p := clause(t, b.String()[2:]), place("v0", node(0))
	l, no := plan.Plain(c, vars("n-v0")...)
	if no != api.OK || len(l) != paths*(each+1) {
		t.Fatal(len(l), no)
	}
	got, no := plan.Find(g, p, c, l...)
	if no != api.OK || len(got) != 1 || len(got[0]) != paths+1 || got[0][0].Int != 0 || got[0][paths].Int != paths*each {
		t.Error(len(got), no)
	}
	if l, no := plan.Choices(c, vars("n-v0"), l[:len(l)-1]...); line(l) != "all 19 1000; rel 19 999" || no != api.OK {
		t.Error(line(l), no)
	}
	if no := plan.Check(c, vars("n-v0"), l[:len(l)-1]...); no != api.ErrPlan {
		t.Error(no)
	}
}

// Choices of a part with many labels and keys: each label with each key.
func TestManyChoices(t *testing.T) {
	var labels, keys strings.Builder
	for i := range 300 {
		labels.WriteString(":L" + strconv.Itoa(i%200))
		keys.WriteString(", k" + strconv.Itoa(299-i) + ": 1")
	}
	c := clause(t, "("+labels.String()+" {"+keys.String()[2:]+"})")
	l, no := plan.Choices(c, nil)
	if no != api.OK || len(l) != 1+200+200*300 || line(l[1:3]) != "label 0 0 L0; label 0 0 L1" || line(l[200:203]) != "label 0 0 L99; seek 0 0 L0 k0; seek 0 0 L0 k1" || line(l[len(l)-1:]) != "seek 0 0 L99 k99" {
		t.Error(len(l), no)
	}
	if got := told(plan.Pick(c, nil, -1)); got != "seek 0 0 L99 k99" {
		t.Error(got)
	}
}
