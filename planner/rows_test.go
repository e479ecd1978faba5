package planner_test

import (
	"slices"
	"testing"

	"lattice/api"
	"lattice/planner"
)

// P15.1: Rows, Cost.

// many are counts by which nearly all that is reckoned differs. A node has 10 relationships each way, 5 of T, 2 of U, 6 of both; from one with A go 6, 5 of T, 1 of U, to it 2, 2, none; from one with B 4, 4, none, to it 9, 8, 1.
const many = "nodes 100; rels 1000; label A 10; label B 4; type T 450; type U 130; end T A out 50; end T A in 16; end T B out 13; end T B in 30; end U A out 7; end U B in 3; key A k 10 5; key A l 9 2; key B k 4 3"

// reckons is a plan of a clause, with its rows and its cost, as "1 2, 3".
type reckons struct{ clause, columns, plan, want string }

// hold holds what Rows and Cost answer, and what the other way of reckoning does.
func hold(t *testing.T, by string, l ...reckons) {
	t.Helper()
	for _, x := range l {
		w := words{clause(t, x.clause), vars(x.columns), counts(t, by)}
		plan := steps(t, x.plan)
		if got := reckoned(w.clause, w.columns, w.counts, plan); got != x.want {
			t.Errorf("%s with %s by %s: %s: %s, not %s", x.clause, x.columns, by, x.plan, got, x.want)
		}
		if got := w.reckoned(plan); got != x.want {
			t.Errorf("%s with %s by %s: %s: by the words %s, not %s", x.clause, x.columns, by, x.plan, got, x.want)
		}
	}
}

func TestChapter(t *testing.T) {
	hold(t, oneCounts,
		reckons{one, "", "all 0 0; rel 0 0", "100 200, 300"},
		reckons{one, "", "label 0 0 A; rel 0 0", "10 20, 30"},
		reckons{one, "", "seek 0 0 A k; rel 0 0", "2 4, 6"},
		reckons{one, "", "all 0 1; rel 0 0 back", "100 100, 200"},
	)
}

func TestNodes(t *testing.T) {
	hold(t, many,
		reckons{"(a)", "", "all 0 0", "100, 100"},
		reckons{"(a:A)", "", "all 0 0", "100, 100"}, reckons{"(a:A)", "", "label 0 0 A", "10, 10"},
		reckons{"(a:B:A)", "", "label 0 0 A", "10, 10"}, reckons{"(a:B:A)", "", "label 0 0 B", "4, 4"},
		reckons{"(a:Z:A)", "", "label 0 0 Z", "0, 0"},
		reckons{"(a:A {k: 1, l: 2})", "", "seek 0 0 A k", "2, 2"}, reckons{"(a:A {k: 1, l: 2})", "", "seek 0 0 A l", "5, 5"}, reckons{"(a:A:B {l: 2, k: 1})", "", "seek 0 0 B k", "2, 2"},
		reckons{"(:B {l: 1})", "", "seek 0 0 B l", "0, 0"}, reckons{"(:Z {k: 1})", "", "seek 0 0 Z k", "0, 0"},
		reckons{"(n)", "n-n", "bound 0 0", "1, 1"}, reckons{"(n:A), (n:B {k: 1})", "n-n", "bound 1 0; bound 0 0", "1 1, 2"},
		reckons{"(a), (a:A), (a)", "", "label 1 0 A; bound 0 0; bound 2 0", "10 10 10, 30"},
		// Each for each row that is ahead of it.
		reckons{"(a), (b)", "", "all 0 0; all 1 0", "100 10000, 10100"}, reckons{"(a), (b:A)", "", "all 0 0; label 1 0 A", "100 1000, 1100"}, reckons{"(a), (b:A)", "", "label 1 0 A; all 0 0", "10 1000, 1010"},
		reckons{"(a), (b:A), (:A {k: 1}), (n)", "n-n", "seek 2 0 A k; bound 3 0; label 1 0 A; all 0 0", "2 2 20 2000, 2024"},
		reckons{"(a), (:B {k: 1})", "", "all 0 0; seek 1 0 B k", "100 200, 300"},
	)
}

func TestConditions(t *testing.T) {
	hold(t, many,
		reckons{"(a:A) WHERE a.k = 1", "", "label 0 0 A; where 0", "10 5, 20"},
		reckons{"(a:A) WHERE a.k = 1 AND a.l = 2 AND a.k + 1 = 2", "", "label 0 0 A; where 1; where 0; where 2", "10 5 3 2, 28"},
		reckons{"(a:B {k: 1}) WHERE true AND true AND true", "", "seek 0 0 B k; where 0; where 2; where 1", "2 1 1 1, 6"},
		reckons{"(n) WHERE n.k = 1 AND true", "n-n", "where 1; where 0; bound 0 0", "1 1 1, 3"},
		reckons{"(a:A), (b:B) WHERE a.k = 1", "", "label 0 0 A; where 0; label 1 0 B", "10 5 20, 40"}, reckons{"(a:A), (b:B) WHERE a.k = 1", "", "label 0 0 A; label 1 0 B; where 0", "10 40 20, 90"},
		reckons{"(a:A)-->(b) WHERE a.k = 1", "", "label 0 0 A; where 0; rel 0 0", "10 5 30, 50"},
		reckons{"(a:Z) WHERE a.k = 1 AND 1 / 0 = 1", "", "label 0 0 Z; where 0; where 1", "0 0 0, 0"},
	)
}

func TestRelationships(t *testing.T) {
	const all, label, back = "all 0 0; rel 0 0", "label 0 0 A; rel 0 0", "label 0 1 A; rel 0 0 back"
	hold(t, many,
		// Of a near part without labels: types, and both ways.
		reckons{"(a)-->(b)", "", all, "100 1000, 1100"}, reckons{"(a)<--(b)", "", all, "100 1000, 1100"}, reckons{"(a)--(b)", "", all, "100 2000, 2100"}, reckons{"(a)-->(b:B)", "", all, "100 1000, 1100"},
		reckons{"(a)-[:T]->(b)", "", all, "100 500, 600"}, reckons{"(a)<-[:U]-(b)", "", all, "100 200, 300"}, reckons{"(a)-[:T]-(b)", "", all, "100 900, 1000"}, reckons{"(a)-[:U]-(b)", "", all, "100 300, 400"},
		reckons{"(a)-[:U|T]->(b)", "", all, "100 600, 700"}, reckons{"(a)-[:U|T]-(b)", "", all, "100 1200, 1300"}, reckons{"(a)-[:T|T]->(b)", "", all, "100 500, 600"}, reckons{"(a)-[:Z]->(b)", "", all, "100 0, 100"}, reckons{"(a)-[:Z|U]->(b)", "", all, "100 200, 300"},
		reckons{"(a)-[:T]->(b)", "", "all 0 1; rel 0 0 back", "100 500, 600"}, reckons{"(a:A)-->(b)", "", "all 0 1; rel 0 0 back", "100 1000, 1100"},
		// Of one with a label: which way too.
		reckons{"(a:A)-->(b)", "", label, "10 60, 70"}, reckons{"(a:A)<--(b)", "", label, "10 20, 30"}, reckons{"(a:A)--(b)", "", label, "10 80, 90"}, reckons{"(a:A)-->(b:B)", "", label, "10 60, 70"}, reckons{"(a:A)-->(b)", "", all, "100 600, 700"},
		reckons{"(a:A)-[:T]->(b)", "", label, "10 50, 60"}, reckons{"(a:A)<-[:T]-(b)", "", label, "10 20, 30"}, reckons{"(a:A)-[:T]-(b)", "", label, "10 70, 80"},
		reckons{"(a:A)-[:U]->(b)", "", label, "10 10, 20"}, reckons{"(a:A)<-[:U]-(b)", "", label, "10 0, 10"}, reckons{"(a:A)-[:U]-(b)", "", label, "10 10, 20"}, reckons{"(a:A)-[:U|T]->(b)", "", label, "10 60, 70"}, reckons{"(a:A)-[:T|Z|T]->(b)", "", label, "10 50, 60"},
		// Back, the direction is turned, and the near part is the right one.
		reckons{"(a)-->(b:A)", "", back, "10 20, 30"}, reckons{"(a)<--(b:A)", "", back, "10 60, 70"}, reckons{"(a)--(b:A)", "", back, "10 80, 90"}, reckons{"(a:B)-->(b:A)", "", back, "10 20, 30"},
		reckons{"(a)-[:T]->(b:B)", "", "label 0 1 B; rel 0 0 back", "4 32, 36"}, reckons{"(a)<-[:T]-(b:B)", "", "label 0 1 B; rel 0 0 back", "4 16, 20"}, reckons{"(a)-[:T]-(b:B)", "", "label 0 1 B; rel 0 0 back", "4 44, 48"}, reckons{"(a)<-[:U]-(b:B)", "", "label 0 1 B; rel 0 0 back", "4 0, 4"},
		// Of several labels the least.
		reckons{"(a:A:B)-->(b)", "", label, "10 40, 50"}, reckons{"(a:A:B)<--(b)", "", label, "10 20, 30"}, reckons{"(a:B:A)--(b)", "", label, "10 80, 90"}, reckons{"(a:B:A:B)<-[:T]-(b)", "", label, "10 20, 30"}, reckons{"(a:B:A)<-[:U]-(b)", "", all, "100 0, 100"}, reckons{"(a:A:Z)-->(b)", "", all, "100 0, 100"},
		reckons{"(a)-->(b:B:A)", "", back, "10 20, 30"}, reckons{"(a)<--(b:A:B)", "", back, "10 40, 50"},
		// The labels of another part with the same Var, and conditions, don't count.
		reckons{"(a)-->(b), (a:A)", "", "label 1 0 A; bound 0 0; rel 0 0", "10 10 100, 120"}, reckons{"(a)-->(b) WHERE a:A", "", "all 0 0; where 0; rel 0 0", "100 50 500, 700"},
	)
}

func TestOtherEndGiven(t *testing.T) {
	hold(t, many,
		reckons{"(a)-->(b)", "", "all 0 0; all 0 1; rel 0 0", "100 10000 1000, 110100"}, reckons{"(a)-->(b)", "", "all 0 1; all 0 0; rel 0 0 back", "100 10000 1000, 110100"},
		reckons{"(a:A)-[:T]->(b:B)", "", "label 0 0 A; label 0 1 B; rel 0 0", "10 40 2, 250"}, reckons{"(a:A)-[:T]->(b:B)", "", "label 0 0 A; label 0 1 B; rel 0 0 back", "10 40 4, 370"},
		reckons{"(n)-->(m)", "n-n n-m", "bound 0 0; bound 0 1; rel 0 0", "1 1 1, 12"}, reckons{"(n)-[:Z]->(m)", "n-n n-m", "bound 0 0; bound 0 1; rel 0 0", "1 1 0, 2"},
		// A Var that is known is no part that is given.
		reckons{"(n)-->(m)", "n-n n-m", "bound 0 0; rel 0 0", "1 10, 11"}, reckons{"(a)-->(a)", "", "all 0 0; rel 0 0", "100 1000, 1100"}, reckons{"(a)-->(a)", "", "all 0 0; bound 0 1; rel 0 0", "100 100 10, 1200"},
		reckons{"(a)-->(b), (b)", "", "all 1 0; all 0 0; rel 0 0", "100 10000 100000, 110100"},
		// Given by another relationship's step, from either side.
		reckons{"(a)-->(b)<--(c)", "", "all 0 1; rel 0 0 back; rel 0 1", "100 1000 10000, 11100"},
		reckons{"(a)-->(b)<--(c)", "", "all 0 0; all 0 2; rel 0 0; rel 0 1", "100 10000 100000 10000, 1110100"}, reckons{"(a)-->(b)<--(c)", "", "all 0 0; all 0 2; rel 0 0; rel 0 1 back", "100 10000 100000 10000, 1110100"}, reckons{"(a)-->(b)<--(c)", "", "all 0 0; all 0 2; rel 0 1 back; rel 0 0", "100 10000 100000 10000, 1110100"}, reckons{"(a)-->(b)<--(c)", "", "all 0 2; all 0 0; rel 0 1 back; rel 0 0 back", "100 10000 100000 10000, 1110100"},
		reckons{"(a:A)-->(b:B)-->(c:A)", "", "label 0 0 A; label 0 2 A; rel 0 0; rel 0 1 back", "10 100 600 12, 1910"}, // 600 times 2, in 100
		// Not by a part of the same number in another path.
		reckons{"(a)-->(b), (c)-->(d)", "", "all 0 0; all 1 1; rel 0 0; rel 1 0 back", "100 10000 100000 1000000, 1110100"}, reckons{"(a)-->(b), (c)-->(d)-->(e)", "", "all 0 1; rel 0 0 back; all 1 2; all 1 0; rel 1 0; rel 1 1", "100 1000 100000 10000000 100000000 10000000, 1110101100"},
	)
}

// Counts that are nought, or do not go with each other.
func TestCountsThatAreWrong(t *testing.T) {
	hold(t, "",
		reckons{"(a:A {k: 1})", "", "all 0 0", "0, 0"}, reckons{"(a:A {k: 1})", "", "label 0 0 A", "0, 0"}, reckons{"(a:A {k: 1})", "", "seek 0 0 A k", "0, 0"},
		reckons{"(n)-->(m) WHERE true", "n-n n-m", "bound 0 0; where 0; rel 0 0", "1 1 0, 2"}, reckons{"(n)-->(m)", "n-n n-m", "bound 0 0; bound 0 1; rel 0 0 back", "1 1 0, 2"}, reckons{"(a)-->(b) WHERE true", "", "all 0 0; all 0 1; rel 0 0; where 0", "0 0 0 0, 0"},
	)
	hold(t, "rels 10; type T 7; end T A out 5; end U A out 100; label A 10; key A k 10 0; key A l 10 -3; key A m -10 3; key A n 3 10",
		// No nodes, but relationships and values: what is below 1 counts as 1 where a share is taken in it.
		reckons{"(n)-->(m)", "n-n n-m", "bound 0 0; bound 0 1; rel 0 0", "1 1 10, 12"}, reckons{"(n)-[:T]-(m)", "n-n n-m", "bound 0 0; bound 0 1; rel 0 0", "1 1 14, 16"}, reckons{"(n:A)-->(m)", "n-n n-m", "bound 0 0; rel 0 0", "1 5, 6"}, reckons{"(n:A)-[:U]->(m)", "n-n n-m", "bound 0 0; rel 0 0", "1 100, 101"},
		reckons{"(a:A)", "", "label 0 0 A", "0, 0"}, reckons{"(a:A {k: 1, l: 1, m: 1, n: 1})", "", "seek 0 0 A k", "10, 10"}, reckons{"(a:A {k: 1, l: 1, m: 1, n: 1})", "", "seek 0 0 A l", "10, 10"}, reckons{"(a:A {k: 1, l: 1, m: 1, n: 1})", "", "seek 0 0 A m", "0, 0"}, reckons{"(a:A {k: 1, l: 1, m: 1, n: 1})", "", "seek 0 0 A n", "1, 1"},
	)
	hold(t, "nodes -100; rels -5; label A -1", reckons{"(a:A)", "", "all 0 0", "0, 0"}, reckons{"(a:A)", "", "label 0 0 A", "0, 0"}, reckons{"(n)--(m)", "n-n", "bound 0 0; rel 0 0", "1 0, 1"})
	hold(t, "nodes 50; label A 3; label A 7; label B 70; key A k 9 1; key A k 1 1", reckons{"(a:A)", "", "label 0 0 A", "3, 3"}, reckons{"(a:B)", "", "label 0 0 B", "50, 50"}, reckons{"(a:A {k: 1})", "", "seek 0 0 A k", "9, 9"})
	// Of no rows behind some step nothing comes any more.
	hold(t, many, reckons{"(a:Z)-->(b), (c) WHERE c.k = 1", "", "label 0 0 Z; all 1 0; where 0; rel 0 0", "0 0 0 0, 0"}, reckons{"(a:Z)-->(b), (c) WHERE c.k = 1", "", "all 1 0; where 0; label 0 0 Z; rel 0 0", "100 50 0 0, 200"}, reckons{"(a)-[:Z]->(b), (a), (b)", "", "all 0 0; rel 0 0; bound 1 0; bound 2 0", "100 0 0 0, 100"})
}

// What is reckoned is cut at 2^62.
func TestCuts(t *testing.T) {
	const top = "4611686018427387904"
	for _, n := range []string{top, "4611686018427387905", "9223372036854775807"} {
		hold(t, "nodes "+n+"; rels "+n,
			reckons{"(a)", "", "all 0 0", top + ", " + top}, reckons{"(a), (b)", "", "all 0 0; all 1 0", top + " " + top + ", " + top},
			reckons{"(a) WHERE true AND true", "", "all 0 0; where 0; where 1", top + " 2305843009213693952 1152921504606846976, " + top},
			reckons{"(a)--(b)", "", "all 0 0; all 0 1; rel 0 0", top + " " + top + " 1, " + top},
		)
	}
	hold(t, "nodes 2305843009213693952", reckons{"(a) WHERE true AND true", "", "all 0 0; where 0; where 1", "2305843009213693952 1152921504606846976 576460752303423488, " + top})
	hold(t, "nodes 2305843009213693951", reckons{"(a) WHERE true", "", "all 0 0; where 0", "2305843009213693951 1152921504606846976, 4611686018427387902"}, reckons{"(a) WHERE true AND true", "", "all 0 0; where 0; where 1", "2305843009213693951 1152921504606846976 576460752303423488, " + top})
	hold(t, "nodes 2147483648", reckons{"(a), (b)", "", "all 0 0; all 1 0", "2147483648 " + top + ", " + top})
	hold(t, "nodes 2147483647", reckons{"(a), (b)", "", "all 0 0; all 1 0", "2147483647 4611686014132420609, 4611686016279904256"})
	// The work is cut ahead of the share that is taken of it.
	hold(t, "nodes 1099511627776; rels "+top, reckons{"(a)-->(b)", "", "all 0 0; all 0 1; rel 0 0", "1099511627776 " + top + " 4194304, " + top}, reckons{"(a)-->(b)", "", "all 0 0; rel 0 0", "1099511627776 " + top + ", " + top})
	hold(t, "nodes 3; label A "+top+"; key A k "+top+" 1; end T A out "+top+"; type T 1", reckons{"(a:A {k: 1})-->(b)", "", "seek 0 0 A k; rel 0 0", top + " " + top + ", " + top}, reckons{"(a:A {k: 1})-->(b)", "", "seek 0 0 A k; all 0 1; rel 0 0", top + " " + top + " 1537228672809129302, " + top})
}

// A plan of no path is none: there is no clause of MATCH without a part. Steps in any order of a plan's lists give each step its own rows.
func TestRowsForEachStep(t *testing.T) {
	c := clause(t, "(a:A {k: 1})-[r:T]->(b:B), (b)--(n), (:A) WHERE a.k = b.k AND n.k = 1 AND 1 / a.k = 1")
	l := steps(t, "where 1; seek 0 0 A k; rel 0 0; bound 1 0; bound 1 1; where 0; rel 1 0 back; label 2 0 A; where 2")
	rows, no := planner.Rows(c, vars("n-n"), counts(t, many), l...)
	if no != api.OK || !slices.Equal(rows, []int64{1, 2, 10, 10, 10, 5, 1, 10, 5}) {
		t.Error(rows, no)
	}
	if cost, no := planner.Cost(c, vars("n-n"), counts(t, many), l...); no != api.OK || cost != 1+2+10+10+10+10+100+10+10 {
		t.Error(cost, no)
	}
}
