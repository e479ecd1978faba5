package planner_test

import (
	"math/big"
	"testing"

	"lattice/api"
	"lattice/planner"
)

// P15.2: Greedy, Best.

// chooses is a clause by some counts: the greedy plan, the best one, and how many tries all plans are.
type chooses struct {
	clause, columns, by, greedy, best string
	tries                             int
}

func TestGreedyAndBest(t *testing.T) {
	const same = "the greedy one"
	for _, x := range []chooses{
		{one, "", oneCounts, "seek 0 0 A k; rel 0 0", same, 26},
		{"(a)", "", many, "all 0 0", same, 1}, {"(a:A)", "", many, "label 0 0 A", same, 2}, {"(n)", "n-n", many, "bound 0 0", same, 1},
		{"(a:A {k: 1}), (b:B)", "", many, "seek 0 0 A k; label 1 0 B", same, 17},
		// The step of least work first leads into a step of much work: the best plan begins elsewhere.
		{"(a:A)-->(b:B)", "", "nodes 100; label A 10; label B 11; type T 9; end T A out 1000; end T B in 5", "label 0 0 A; label 0 1 B; rel 0 0 back", "label 0 1 B; rel 0 0 back", 32},
		{"(a:A)-[:T]->(b:B)<-[:U]-(c:C)", "", "nodes 1000; label A 2; label B 30; label C 3; type T 500; type U 500; end T A out 400; end U C out 3; end T B in 30; end U B in 30", "label 0 0 A; label 0 2 C; rel 0 1 back; rel 0 0 back", "label 0 2 C; rel 0 1 back; rel 0 0 back", 1070},
		// The counts alone tell whether a label is better than a value, or than each node.
		{"(a:A {k: 1})", "", "nodes 7; label A 7; key A k 9 1", "all 0 0", same, 3}, {"(a:A {k: 1})", "", "nodes 7; label A 6; key A k 9 1", "label 0 0 A", same, 3}, {"(a:A {k: 1})", "", "nodes 7; label A 6; key A k 6 1", "label 0 0 A", same, 3}, {"(a:A {k: 1})", "", "nodes 7; label A 7; key A k 12 2", "seek 0 0 A k", same, 3},
		{"(a:C:A:B {l: 1, k: 1})", "", "nodes 9; label A 5; label B 4; label C 4; key C k 4 2; key B l 2 1; key C l 3 2; key A k 5 1; key B k 4 1; key A l 5 1", "seek 0 0 B l", same, 10},
	} {
		if x.best == same {
			x.best = x.greedy
		}
		x.hold(t)
	}
}

// Several choices of the same work: the one of the fewest rows; of the same rows too: the first one.
func TestChoicesOfTheSameWork(t *testing.T) {
	for _, x := range []chooses{
		// A condition leaves fewer rows than what a Var has: it goes ahead, though it is told behind.
		{"(a), (a) WHERE a.k = 1", "", many, "all 0 0; where 0; bound 1 0", "all 0 0; where 0; bound 1 0", 10},
		// Of one row both leave one.
		{"(a), (a) WHERE a.k = 1", "", "nodes 1", "all 0 0; bound 1 0; where 0", "all 0 0; bound 1 0; where 0", 10},
		{"(n) WHERE n.k = 1 AND n.l = 1", "n-n", many, "bound 0 0; where 0; where 1", "bound 0 0; where 0; where 1", 15},
		// Of no row nothing is more work than something else.
		{"(a:Z {k: 1}), (b) WHERE a.k = 1", "", many, "label 0 0 Z; all 1 0; where 0", "label 0 0 Z; all 1 0; where 0", 22},
		{"(a:A)-->(b:A) WHERE b.k = 1", "", "", "all 0 0; all 0 1; rel 0 0; where 0", "all 0 0; all 0 1; rel 0 0; where 0", 92},
		// A relationship to a part that is given leaves fewer rows than one that gives a part.
		{"(a)-[:T]->(b)-[:T]->(c), (b)-[:T]->(a)", "", "nodes 4; rels 8; type T 8", "all 0 0; bound 1 1; rel 0 0; bound 1 0; rel 1 0; rel 0 1", "all 0 0; bound 1 1; rel 0 0; bound 1 0; rel 1 0; rel 0 1", 38737},
		// The first path, the first part, ahead ahead of back, the first label, the first key.
		{"(b), (a)", "", many, "all 0 0; all 1 0", "all 0 0; all 1 0", 4}, {"(a)--(b)", "", many, "all 0 0; rel 0 0", "all 0 0; rel 0 0", 10}, {"(n)--(m)", "n-n n-m", many, "bound 0 0; bound 0 1; rel 0 0", "bound 0 0; rel 0 0", 10},
		{"(:B:A {l: 1, k: 1})", "", "nodes 9; label A 3; label B 3; key A k 3 1; key A l 3 1; key B k 3 1; key B l 3 1", "label 0 0 A", "label 0 0 A", 7}, {"(:B:A {l: 1, k: 1})", "", "nodes 9; label A 3; label B 3; key A k 2 1; key A l 2 1; key B k 2 1; key B l 2 1", "seek 0 0 A k", "seek 0 0 A k", 7},
		{"(a) WHERE a.k = 1 AND a.l = 1 AND a.m = 1", "", many, "all 0 0; where 0; where 1; where 2", "all 0 0; where 0; where 1; where 2", 16},
	} {
		x.hold(t)
	}
}

// hold holds Greedy and Best, for just as many tries as there are, one fewer, and none, against what is said of them, and against all plans gone through.
func (x chooses) hold(t *testing.T) {
	t.Helper()
	w := words{clause(t, x.clause), vars(x.columns), counts(t, x.by)}
	if got := told(planner.Greedy(w.clause, w.columns, w.counts)); got != x.greedy {
		t.Errorf("%s by %s: greedy %s, not %s", x.clause, x.by, got, x.greedy)
	}
	if got := line(w.greedy()); got != x.greedy {
		t.Errorf("%s by %s: by the words greedy %s, not %s", x.clause, x.by, got, x.greedy)
	}
	best, tries := w.best(api.MaxTries)
	if line(best) != x.best || tries != x.tries {
		t.Errorf("%s by %s: by the words %s of %d, not %s of %d", x.clause, x.by, line(best), tries, x.best, x.tries)
	}
	for n, want := range map[int]string{0: x.greedy + " of some", tries - 1: x.greedy + " of some", tries: x.best + " of all", tries + 1: x.best + " of all", api.MaxTries: x.best + " of all"} {
		if got := toldBest(planner.Best(w.clause, w.columns, w.counts, n)); got != want {
			t.Errorf("%s by %s in %d of %d tries: %s, not %s", x.clause, x.by, n, tries, got, want)
		}
	}
}

// Of several whole plans of the same cost the first one that is come to is the best: all of them are told by the words.
func TestPlansOfTheSameCost(t *testing.T) {
	for _, x := range []struct {
		clause, columns, by, want string
		same                      int
	}{
		{"(a), (b)", "", many, "all 0 0; all 1 0", 2},
		{"(a)--(b)", "", many, "all 0 0; rel 0 0", 2},
		{"(a), (n) WHERE a.k = n.k", "n-n", "nodes 1", "all 0 0; bound 1 0; where 0", 3},
		{"(a:A)-->(b:A)", "", "", "all 0 0; all 0 1; rel 0 0", 20},
		{"(a:A), (n) WHERE n.k = 1", "n-n", "nodes 9; label A 9", "bound 1 0; where 0; all 0 0", 4},
	} {
		w := words{clause(t, x.clause), vars(x.columns), counts(t, x.by)}
		best, tries := w.best(api.MaxTries)
		_, cost := w.sum(best)
		n, again := 0, 0
		w.plans(func(l []api.Step, other *big.Int) {
			if other.Cmp(cost) == 0 {
				n++
			}
		}, &again, tries)
		got := toldBest(planner.Best(w.clause, w.columns, w.counts, tries))
		if got != x.want+" of all" || n != x.same || again != tries {
			t.Errorf("%s by %s: %s, and %d of the same cost", x.clause, x.by, got, n)
		}
	}
}

// By the greatest counts all plans of more than one part cost the same.
func TestGreatestCounts(t *testing.T) {
	const top = "nodes 9223372036854775807; rels 9223372036854775807; label A 9223372036854775807; type T 9223372036854775807; end T A out 9223372036854775807; end T A in 9223372036854775807; key A k 9223372036854775807 1"
	for _, x := range []chooses{
		{"(a:A {k: 1}), (b:A)", "", top, "all 0 0; all 1 0", "all 0 0; all 1 0", 17},
		{"(a:A {k: 1})-[:T]->(b)", "", top, "all 0 0; all 0 1; rel 0 0", "all 0 0; all 0 1; rel 0 0", 26},
		{"(a)-[:T]->(b:A) WHERE a.k = 1", "", top, "all 0 0; where 0; rel 0 0", "all 0 0; all 0 1; rel 0 0; where 0", 49},
	} {
		x.hold(t)
	}
}
