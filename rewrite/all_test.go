package rewrite_test

import (
	"math"
	"slices"
	"testing"

	"lattice/api"
	"lattice/rewrite"
)

// P14.2: All, Many.

func TestAll(t *testing.T) {
	for _, x := range []struct{ clause, columns, plan, want string }{
		{one, "", "all 0 0; rel 0 0; where 0", "give 0 label 0 0 A; give 0 seek 0 0 A k; split 0 all 0 1; split 1 all 0 1"},
		{one, "", "all 0 0; all 0 1; rel 0 0; where 0", "give 0 label 0 0 A; give 0 seek 0 0 A k; swap 0; swap 2; turn 2; fuse 1"},
		{one, "", "all 0 1; where 0; rel 0 0 back", "swap 1; split 0 all 0 0; split 0 label 0 0 A; split 0 seek 0 0 A k; split 1 all 0 0; split 1 label 0 0 A; split 1 seek 0 0 A k; split 2 all 0 0; split 2 label 0 0 A; split 2 seek 0 0 A k"},
		{one, "", "all 0 1; label 0 0 A; rel 0 0 back; where 0", "give 1 all 0 0; give 1 seek 0 0 A k; swap 0; swap 2; turn 2; fuse 1"},
		{one, "n-a n-b", "bound 0 0; rel 0 0; where 0", "swap 1; split 0 bound 0 1; split 1 bound 0 1"},
		{one, "n-a n-b", "where 0; bound 0 0; bound 0 1; rel 0 0", "swap 0; swap 1; turn 3; fuse 2"},
		{"()", "", "all 0 0", ""},
		{"(a), (a)", "", "all 0 0; bound 1 0", ""},
		{"(a:A) WHERE $p", "", "all 0 0; where 0", "give 0 label 0 0 A"},
		// Labels and keys rise, each once, whatever order they stand in.
		{"(:C:A:C {z: 1, m: 2})", "", "label 0 0 C", "give 0 all 0 0; give 0 label 0 0 A; give 0 seek 0 0 A m; give 0 seek 0 0 A z; give 0 seek 0 0 C m; give 0 seek 0 0 C z"},
		{"(:B:A), (:C {k: 1})", "", "seek 1 0 C k; all 0 0", "give 0 all 1 0; give 0 label 1 0 C; give 1 label 0 0 A; give 1 label 0 0 B; swap 0"},
		// Parts of several paths, by rising numbers; those of one Var by StepBound where it is known.
		{"(a)-->(b), (b)-->(c)", "", "all 1 0; rel 1 0; all 0 0; rel 0 0", "swap 1; split 0 all 1 1; split 1 all 1 1; split 1 bound 0 1; split 2 bound 0 1; split 3 bound 0 1"},
		{"(a)-->(b), (b)-->(c)", "", "all 0 0; rel 0 0; bound 1 0; rel 1 0", "split 0 all 0 1; split 0 all 1 1; split 1 all 0 1; split 1 all 1 1; split 2 all 1 1; split 3 all 1 1"},
		{"(x)-->(a)-->(x)", "", "all 0 1; rel 0 0 back; rel 0 1", "swap 1; split 0 all 0 0; split 0 all 0 2; split 1 all 0 0; split 1 all 0 2; split 2 bound 0 2"},
		// Conditions: only those that can't go wrong change places with others.
		{"(a) WHERE a.x = 1 AND a.y = 2 AND 1 / a.x = 1 AND a.z = 1", "", "all 0 0; where 0; where 1; where 2; where 3", "swap 1"},
	} {
		c, v, l := clause(t, x.clause), vars(x.columns), steps(t, x.plan)
		if got := toldAll(rewrite.All(c, v, l...)); got != x.want {
			t.Errorf("%s with %s: %s: %s", x.clause, x.columns, x.plan, got)
		}
		w := words{c, v, l}
		if got := toldAll(w.all(), api.OK); got != x.want {
			t.Errorf("%s with %s: %s: by the words %s", x.clause, x.columns, x.plan, got)
		}
	}
}

func TestMany(t *testing.T) {
	const first, second = "all 0 0; rel 0 0; where 0", "all 0 0; all 0 1; rel 0 0; where 0"
	for _, x := range []struct {
		clause, columns, plan string
		picks                 []int
		want                  string
	}{
		{one, "", first, nil, first}, {one, "", second, []int{}, second},
		{one, "", first, []int{0}, "label 0 0 A; rel 0 0; where 0"}, {one, "", first, []int{1}, "seek 0 0 A k; rel 0 0; where 0"}, {one, "", first, []int{2}, "all 0 1; all 0 0; rel 0 0; where 0"}, {one, "", first, []int{3}, second},
		{one, "", first, []int{4}, "label 0 0 A; rel 0 0; where 0"}, {one, "", first, []int{7}, second}, {one, "", first, []int{4*1000 + 1}, "seek 0 0 A k; rel 0 0; where 0"},
		{one, "", first, []int{-1}, second}, {one, "", first, []int{-4}, "label 0 0 A; rel 0 0; where 0"}, {one, "", first, []int{-5}, second}, {one, "", first, []int{-2}, "all 0 1; all 0 0; rel 0 0; where 0"},
		{one, "", first, []int{math.MaxInt}, second}, {one, "", first, []int{math.MinInt}, "label 0 0 A; rel 0 0; where 0"}, // modulo 4: 3, 0
		{one, "", second, []int{math.MaxInt}, "seek 0 0 A k; all 0 1; rel 0 0; where 0"}, {one, "", second, []int{math.MinInt}, "all 0 0; all 0 1; rel 0 0 back; where 0"}, // modulo 6: 1, 4
		// One after the other: each among those that apply then.
		{one, "", first, []int{3, 5, 3}, second}, {one, "", first, []int{3, 4, 0}, "label 0 0 A; all 0 1; rel 0 0 back; where 0"}, {one, "", first, []int{3, 3, 4, 2}, "all 0 1; all 0 0; where 0; rel 0 0 back"},
		// A pick for which there is none is passed over.
		{"()", "", "all 0 0", []int{0, 1, -1, math.MaxInt, math.MinInt}, "all 0 0"}, {"(a), (a)", "", "all 1 0; bound 0 0", []int{0, 7}, "all 1 0; bound 0 0"},
		{"(a:A)", "", "all 0 0", []int{9}, "label 0 0 A"}, {"(a:A)", "", "all 0 0", []int{9, -9}, "all 0 0"},
	} {
		c, v, l := clause(t, x.clause), vars(x.columns), steps(t, x.plan)
		if got := told(rewrite.Many(c, v, x.picks, l...)); got != x.want {
			t.Errorf("%s with %s: %s by %v: %s, not %s", x.clause, x.columns, x.plan, x.picks, got, x.want)
		}
	}
}

func rewriteAll(t *testing.T, c api.Clause, v []api.Var, l []api.Step) []api.Rewrite {
	t.Helper()
	all, no := rewrite.All(c, v, l...)
	if no != api.OK {
		t.Fatal(no)
	}
	return all
}

// Each rewrite that applies is picked by its number, from either side.
func TestEachIsPicked(t *testing.T) {
	c, v := clause(t, "(a:A {k: 1})-[r]->(b:B), (b)--(n) WHERE b.x = 2 AND r.y = 1 AND 1 / a.k = 1"), vars("n-n")
	for _, s := range []string{"all 0 0; rel 0 0; bound 1 0; rel 1 0; where 0; where 1; where 2", "bound 1 1; rel 1 0 back; where 0; bound 0 1; rel 0 0 back; where 1; where 2", "label 0 1 B; bound 1 0; label 0 0 A; bound 1 1; where 0; rel 0 0; where 1; rel 1 0; where 2"} {
		l := steps(t, s)
		all := rewriteAll(t, c, v, l)
		if len(all) < 7 || !slices.IsSortedFunc(all, byFields) {
			t.Error(s, len(all))
		}
		for i, r := range all {
			want, applies := words{c, v, l}.made(r)
			if !applies {
				t.Error(s, rewrite.Text(r))
			}
			for _, n := range []int{i, i - len(all), i + 3*len(all), i - 7*len(all)} {
				if got := told(rewrite.Many(c, v, []int{n}, l...)); got != line(want) {
					t.Errorf("%s by %d: %s, not %s", s, n, got, line(want))
				}
			}
		}
	}
}
