package rewrite_test

import (
	"math"
	"testing"

	"lattice/api"
	"lattice/rewrite"
)

// P14.1: Apply, Undo.

// made is what rewrites make of a plan, and what undoes that.
type made struct{ rewrite, want, undo string }

// rewritten are plans of a clause, and what rewrites make of them; those that do not apply.
type rewritten struct {
	clause, columns, plan string
	made                  []made
	not                   []string
}

var cases = []rewritten{
	// The chapter's examples.
	{one, "", "all 0 0; rel 0 0; where 0", []made{
		{"give 0 seek 0 0 A k", "seek 0 0 A k; rel 0 0; where 0", "give 0 all 0 0"},
		{"give 0 label 0 0 A", "label 0 0 A; rel 0 0; where 0", "give 0 all 0 0"},
		{"split 1 all 0 1", "all 0 0; all 0 1; rel 0 0; where 0", "fuse 1"},
		{"split 0 all 0 1", "all 0 1; all 0 0; rel 0 0; where 0", "fuse 0"},
	}, []string{
		"give 0 all 0 0", "give 0 bound 0 0", "give 0 rel 0 0", "give 0 where 0", "give 0 all 0 1", "give 0 all 1 0", "give 0 seek 0 1 A k", "give 0 label 0 0 B", "give 0 label 0 0", "give 0 seek 0 0 A x", "give 0 seek 0 0 B k", "give 0 seek 0 0 A", "give 1 all 0 1", "give 1 rel 0 0 back", "give 1 all 0 0", "give 2 where 0", "give 2 all 0 0", "give 3 all 0 0", "give -1 all 0 0", "give 0", "give 1", "give 2",
		"swap 0", "swap 1", "swap 2", "swap 3", "swap -1", "swap -2", "turn 0", "turn 1", "turn 2", "turn 3", "turn -1", "fuse 0", "fuse 1", "fuse 2", "fuse 3", "fuse -1",
		"split 0 all 0 0", "split 1 all 0 0", "split 1 seek 0 0 A k", "split 0 label 0 1 A", "split 0 bound 0 1", "split 2 all 0 1", "split 3 all 0 1", "split 4 all 0 1", "split -1 all 0 1", "split 1 rel 0 0", "split 1 rel 0 0 back", "split 2 where 0", "split 3 where 0", "split 1 all 0 2", "split 1 all 1 0", "split 0 all 0 -1", "split 0 all -1 0", "split 1", "split 0", "split 3",
	}},
	{one, "", "all 0 0; all 0 1; rel 0 0; where 0", []made{
		{"fuse 1", "all 0 0; rel 0 0; where 0", "split 1 all 0 1"},
		{"turn 2", "all 0 0; all 0 1; rel 0 0 back; where 0", "turn 2"},
		{"swap 0", "all 0 1; all 0 0; rel 0 0; where 0", "swap 0"},
		{"swap 2", "all 0 0; all 0 1; where 0; rel 0 0", "swap 2"},
		{"give 0 label 0 0 A", "label 0 0 A; all 0 1; rel 0 0; where 0", "give 0 all 0 0"},
	}, []string{"fuse 0", "fuse 2", "fuse 3", "swap 1", "swap 3", "turn 0", "turn 1", "turn 3", "turn 4", "give 1 all 0 0", "give 1 all 0 1", "give 0 all 0 1", "split 0 all 0 0", "split 0 all 0 1", "split 2 all 0 1", "split 4 all 0 1"}},
	{one, "", "all 0 0; all 0 1; rel 0 0 back; where 0", []made{
		{"fuse 0", "all 0 1; rel 0 0 back; where 0", "split 0 all 0 0"},
		{"turn 2", "all 0 0; all 0 1; rel 0 0; where 0", "turn 2"},
	}, []string{"fuse 1"}},
	{one, "", "all 0 1; where 0; rel 0 0 back", []made{
		{"swap 1", "all 0 1; rel 0 0 back; where 0", "swap 1"},
		{"split 0 seek 0 0 A k", "seek 0 0 A k; all 0 1; where 0; rel 0 0 back", "fuse 0"},
		{"split 1 label 0 0 A", "all 0 1; label 0 0 A; where 0; rel 0 0 back", "fuse 1"},
		{"split 2 all 0 0", "all 0 1; where 0; all 0 0; rel 0 0 back", "fuse 2"},
	}, []string{"swap 0", "swap 2", "turn 2", "fuse 0", "fuse 1", "split 3 all 0 0", "give 0 label 0 1 A", "give 0 seek 0 1 A k"}},
	// What a Kind does not use is not zero.
	{one, "", "label 0 0 A; all 0 1; rel 0 0; where 0", []made{
		{"give 0 all 0 0", "all 0 0; all 0 1; rel 0 0; where 0", "give 0 label 0 0 A"},
		{"give 0 seek 0 0 A k", "seek 0 0 A k; all 0 1; rel 0 0; where 0", "give 0 label 0 0 A"},
		{"swap 0 all 0 0", "all 0 1; label 0 0 A; rel 0 0; where 0", "swap 0"},
	}, []string{"swap 0 bound 0 0", "swap 0 all 0 1", "swap 0 all 1 0", "swap 2 where 0", "swap 2 rel 0 0", "turn 2 rel 0 0", "turn 2 rel 0 0 back", "turn 2 all 0 1", "fuse 1 all 0 1", "fuse 1 bound 0 0", "fuse 0 label 0 0 A", "give 0 label 0 0 A"}},
	// A column's Var is known from the beginning.
	{one, "n-a", "bound 0 0; rel 0 0; where 0", []made{
		{"split 0 all 0 1", "all 0 1; bound 0 0; rel 0 0; where 0", "fuse 0"}, {"split 1 all 0 1", "bound 0 0; all 0 1; rel 0 0; where 0", "fuse 1"},
	}, []string{"give 0 all 0 0", "give 0 label 0 0 A", "give 0 seek 0 0 A k", "give 0 bound 0 0", "split 0 bound 0 1", "fuse 0"}},
	{one, "n-a n-b", "bound 0 0; rel 0 0; where 0", []made{
		{"swap 1", "bound 0 0; where 0; rel 0 0", "swap 1"}, {"split 0 bound 0 1", "bound 0 1; bound 0 0; rel 0 0; where 0", "fuse 0"}, {"split 1 bound 0 1", "bound 0 0; bound 0 1; rel 0 0; where 0", "fuse 1"},
	}, []string{"split 0 all 0 1", "split 2 bound 0 1", "swap 0"}},
	{one, "n-a n-b", "where 0; bound 0 1; bound 0 0; rel 0 0", []made{
		{"swap 0", "bound 0 1; where 0; bound 0 0; rel 0 0", "swap 0"}, {"swap 1", "where 0; bound 0 0; bound 0 1; rel 0 0", "swap 1"}, {"fuse 1", "where 0; bound 0 0; rel 0 0", "split 1 bound 0 1"}, {"turn 3", "where 0; bound 0 1; bound 0 0; rel 0 0 back", "turn 3"},
	}, []string{"fuse 2", "fuse 0", "swap 2", "give 1 all 0 1"}},
	// Several paths, Vars that stand in more than one part, conditions of all sorts.
	{"(a:A)-->(b:B:C {k: 1, j: 2}), (c {k: 1})<--(b), (a) WHERE a.x = 1 AND b.y = 2 AND 1 / a.k = 1", "", "all 0 0; rel 0 0; all 1 0; rel 1 0; bound 2 0; where 0; where 1; where 2", []made{
		{"give 0 label 0 0 A", "label 0 0 A; rel 0 0; all 1 0; rel 1 0; bound 2 0; where 0; where 1; where 2", "give 0 all 0 0"},
		{"swap 1", "all 0 0; all 1 0; rel 0 0; rel 1 0; bound 2 0; where 0; where 1; where 2", "swap 1"},
		{"swap 3", "all 0 0; rel 0 0; all 1 0; bound 2 0; rel 1 0; where 0; where 1; where 2", "swap 3"},
		{"swap 4", "all 0 0; rel 0 0; all 1 0; rel 1 0; where 0; bound 2 0; where 1; where 2", "swap 4"},
		{"swap 5", "all 0 0; rel 0 0; all 1 0; rel 1 0; bound 2 0; where 1; where 0; where 2", "swap 5"},
		{"split 0 label 0 1 C", "label 0 1 C; all 0 0; rel 0 0; all 1 0; rel 1 0; bound 2 0; where 0; where 1; where 2", "fuse 0"},
		{"split 1 seek 0 1 C j", "all 0 0; seek 0 1 C j; rel 0 0; all 1 0; rel 1 0; bound 2 0; where 0; where 1; where 2", "fuse 1"},
		{"split 0 all 1 1", "all 1 1; all 0 0; rel 0 0; all 1 0; rel 1 0; bound 2 0; where 0; where 1; where 2", "fuse 0"},
		{"split 2 bound 1 1", "all 0 0; rel 0 0; bound 1 1; all 1 0; rel 1 0; bound 2 0; where 0; where 1; where 2", "fuse 2"},
		{"split 3 bound 1 1", "all 0 0; rel 0 0; all 1 0; bound 1 1; rel 1 0; bound 2 0; where 0; where 1; where 2", "fuse 3"},
	}, []string{"swap 0", "swap 2", "swap 6", "swap 7", "turn 1", "turn 3", "fuse 0", "fuse 2", "fuse 4", "give 4 all 2 0", "give 2 label 1 0 A", "give 2 seek 1 0 A k", "split 0 bound 1 1", "split 2 all 1 1", "split 4 bound 1 1", "split 0 all 2 0", "split 4 bound 2 0", "split 8 bound 1 1", "split 8 all 0 0"}},
	// A step of a Var may not be put ahead of one that gives that Var by its own.
	{"(a)-->(b), (b)-->(c)", "", "all 1 0; all 0 0; rel 0 0; rel 1 0", []made{
		{"split 1 bound 0 1", "all 1 0; bound 0 1; all 0 0; rel 0 0; rel 1 0", "fuse 1"}, {"split 2 bound 0 1", "all 1 0; all 0 0; bound 0 1; rel 0 0; rel 1 0", "fuse 2"}, {"split 0 all 1 1", "all 1 1; all 1 0; all 0 0; rel 0 0; rel 1 0", "fuse 0"}, {"split 3 all 1 1", "all 1 0; all 0 0; rel 0 0; all 1 1; rel 1 0", "fuse 3"},
	}, []string{"split 0 all 0 1", "split 0 bound 0 1", "split 1 all 0 1", "split 3 bound 0 1", "fuse 0", "fuse 1"}},
	// A step that others hang on can't be left out, though a StepRel behind it gives the part.
	{"(a)-->(b), (b)-->(c) WHERE b.x = 1", "", "all 0 0; all 0 1; bound 1 0; where 0; rel 0 0; rel 1 0", []made{
		{"swap 4", "all 0 0; all 0 1; bound 1 0; where 0; rel 1 0; rel 0 0", "swap 4"},
	}, []string{"fuse 1", "fuse 2", "swap 1"}},
	{"(a)-->(b)-->(c) WHERE b.x = 1", "", "all 0 0; all 0 1; where 0; rel 0 0; rel 0 1", []made{{"split 4 all 0 2", "all 0 0; all 0 1; where 0; rel 0 0; all 0 2; rel 0 1", "fuse 4"}, {"turn 3", "all 0 0; all 0 1; where 0; rel 0 0 back; rel 0 1", "turn 3"}}, []string{"fuse 1", "swap 1", "turn 4"}},
	{"(a)-->(b)-->(c) WHERE b.x = 1", "", "all 0 0; all 0 1; rel 0 0; where 0; rel 0 1", []made{{"fuse 1", "all 0 0; rel 0 0; where 0; rel 0 1", "split 1 all 0 1"}, {"swap 3", "all 0 0; all 0 1; rel 0 0; rel 0 1; where 0", "swap 3"}}, []string{"swap 1"}},
	{"(a)-->(b)-->(c)", "", "all 0 0; all 0 1; rel 0 1; rel 0 0", nil, []string{"fuse 1", "fuse 0"}},
	{"(a)-->(a)", "", "all 0 0; bound 0 1; rel 0 0", []made{{"fuse 1", "all 0 0; rel 0 0", "split 1 bound 0 1"}, {"turn 2", "all 0 0; bound 0 1; rel 0 0 back", "turn 2"}}, []string{"fuse 0", "swap 0", "swap 1", "give 1 all 0 1"}},
	// Parts without a Var, a plan of one step.
	{"()", "", "all 0 0", nil, []string{"swap 0", "swap -1", "turn 0", "fuse 0", "give 0 all 0 0", "split 0 all 0 0", "split 1 all 0 0", "split 1 bound 0 0", "fuse 1"}},
	{"(:B:A)-->()-->(:C)", "", "label 0 0 A; rel 0 0; rel 0 1", []made{
		{"give 0 label 0 0 B", "label 0 0 B; rel 0 0; rel 0 1", "give 0 label 0 0 A"}, {"give 0 all 0 0", "all 0 0; rel 0 0; rel 0 1", "give 0 label 0 0 A"}, {"split 1 label 0 2 C", "label 0 0 A; label 0 2 C; rel 0 0; rel 0 1", "fuse 1"}, {"split 2 label 0 2 C", "label 0 0 A; rel 0 0; label 0 2 C; rel 0 1", "fuse 2"},
	}, []string{"swap 0", "swap 1", "split 3 label 0 2 C"}},
	// Conditions that may go wrong stay behind all else, in order.
	{"OPTIONAL MATCH (a), (b) WHERE a.k = 1 AND 1 / b.k = 1 AND a.j = 1", "", "all 0 0; where 0; all 1 0; where 1; where 2", []made{
		{"swap 1", "all 0 0; all 1 0; where 0; where 1; where 2", "swap 1"},
	}, []string{"swap 0", "swap 2", "swap 3"}},
}

func TestApply(t *testing.T) {
	for _, x := range cases {
		c, v, l := clause(t, x.clause), vars(x.columns), steps(t, x.plan)
		for _, y := range x.made {
			r := rewriteOf(t, y.rewrite)
			applied, no := rewrite.Apply(c, v, r, l...)
			if got := told(applied, no); got != y.want {
				t.Errorf("%s with %s: %s by %s: %s, not %s", x.clause, x.columns, x.plan, y.rewrite, got, y.want)
			}
			back, undone := rewrite.Undo(c, v, r, l...)
			if got := toldUndo(back, undone); got != y.undo || back != rewriteOf(t, y.undo) {
				t.Errorf("%s with %s: %s by %s: undone by %s, not %s", x.clause, x.columns, x.plan, y.rewrite, got, y.undo)
			}
			if got := told(rewrite.Apply(c, v, back, applied...)); got != x.plan {
				t.Errorf("%s with %s: %s by %s and by %s: %s", x.clause, x.columns, x.plan, y.rewrite, y.undo, got)
			}
		}
		for _, s := range x.not {
			refuse(t, x, rewriteOf(t, s))
		}
		for _, kind := range []api.RewriteKind{-1, 5, 6, math.MaxInt, math.MinInt} {
			for at := range len(l) + 1 {
				refuse(t, x, api.Rewrite{Kind: kind, At: at})
			}
		}
		for kind := range api.RewriteSplit + 1 {
			for _, at := range []int{-1, -2, len(l) + 1, math.MaxInt, math.MaxInt - 1, math.MinInt, math.MinInt + 1} {
				for _, s := range append(l, api.Step{}) {
					refuse(t, x, api.Rewrite{Kind: kind, At: at, Step: s})
				}
			}
		}
	}
}

// refuse holds that a rewrite does not apply.
func refuse(t *testing.T, x rewritten, r api.Rewrite) {
	t.Helper()
	c, v, l := clause(t, x.clause), vars(x.columns), steps(t, x.plan)
	if got := told(rewrite.Apply(c, v, r, l...)); got != errRewrite {
		t.Fatalf("%s with %s: %s by %+v: %s", x.clause, x.columns, x.plan, r, got)
	}
	if got := toldUndo(rewrite.Undo(c, v, r, l...)); got != errRewrite {
		t.Errorf("%s with %s: %s by %+v: undone by %s", x.clause, x.columns, x.plan, r, got)
	}
}

// Steps of no kind, and such with what their kind does not use, are refused wherever they may be named.
func TestSpoiltSteps(t *testing.T) {
	spoil := []func(*api.Step){
		func(s *api.Step) { s.Back = true }, func(s *api.Step) { s.Cond = 1 }, func(s *api.Step) { s.Cond = -1 }, func(s *api.Step) { s.Label += "A" }, func(s *api.Step) { s.Key += "k" }, func(s *api.Step) { s.Path = 1 }, func(s *api.Step) { s.Path = math.MinInt }, func(s *api.Step) { s.Part = math.MaxInt },
		func(s *api.Step) { s.Part = -1 }, func(s *api.Step) { s.Kind = -1 }, func(s *api.Step) { s.Kind = 6 }, func(s *api.Step) { s.Kind = math.MaxInt }, func(s *api.Step) { s.Kind = math.MinInt }, func(s *api.Step) { s.Kind = api.StepWhere }, func(s *api.Step) { s.Kind = api.StepRel }, func(s *api.Step) { s.Kind = api.StepBound },
	}
	const short, long = "label 0 0 A; rel 0 0; where 0", "all 0 0; all 0 1; rel 0 0; where 0"
	for _, y := range []struct{ plan, rewrite string }{{short, "give 0 all 0 0"}, {short, "give 0 seek 0 0 A k"}, {short, "split 0 all 0 1"}, {short, "split 1 all 0 1"}, {long, "swap 0"}, {long, "turn 2"}, {long, "fuse 1"}} {
		x, r := rewritten{clause: one, plan: y.plan}, rewriteOf(t, y.rewrite)
		if _, no := rewrite.Apply(clause(t, one), nil, r, steps(t, y.plan)...); no != api.OK {
			t.Fatal(y, no)
		}
		for _, change := range spoil {
			bad := r
			change(&bad.Step)
			refuse(t, x, bad)
		}
	}
}
