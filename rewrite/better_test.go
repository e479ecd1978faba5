package rewrite_test

import (
	"testing"

	"lattice/rewrite"
)

// P14.3: Early, Sharp.

// bettered are plans of a clause, and what is made of them.
type bettered struct{ clause, columns, plan, want string }

func TestEarly(t *testing.T) {
	const three = "(a)-[r]->(b)-->(c) WHERE a.x = 1 AND r.y = 2 AND b.z = c.z AND true AND 1 / a.x = 1 AND a.y = 1"
	for _, x := range []bettered{
		{one, "", "all 0 0; all 0 1; rel 0 0; where 0", "all 0 0; all 0 1; where 0; rel 0 0"},
		{one, "", "all 0 0; all 0 1; where 0; rel 0 0", "all 0 0; all 0 1; where 0; rel 0 0"},
		{one, "", "all 0 0; rel 0 0; where 0", "all 0 0; rel 0 0; where 0"},
		{one, "", "all 0 1; all 0 0; rel 0 0 back; where 0", "all 0 1; where 0; all 0 0; rel 0 0 back"},
		{one, "n-b", "bound 0 1; rel 0 0 back; where 0", "where 0; bound 0 1; rel 0 0 back"},
		{one, "n-a", "bound 0 0; rel 0 0; where 0", "bound 0 0; rel 0 0; where 0"},
		{"(a)", "", "all 0 0", "all 0 0"},
		// Many steps ahead of a condition; conditions that stop at another one do not pass it, nor change places with it.
		{three, "", "all 0 0; rel 0 0; rel 0 1; where 0; where 1; where 2; where 3; where 4; where 5", "all 0 0; where 0; rel 0 0; where 1; rel 0 1; where 2; where 3; where 4; where 5"},
		{three, "", "all 0 0; rel 0 0; rel 0 1; where 3; where 2; where 1; where 0; where 4; where 5", "where 3; all 0 0; rel 0 0; rel 0 1; where 2; where 1; where 0; where 4; where 5"},
		{three, "", "all 0 0; rel 0 0; rel 0 1; where 1; where 3; where 2; where 0; where 4; where 5", "all 0 0; rel 0 0; where 1; where 3; rel 0 1; where 2; where 0; where 4; where 5"},
		{three, "", "all 0 0; where 0; rel 0 0; where 1; where 3; rel 0 1; where 2; where 4; where 5", "all 0 0; where 0; rel 0 0; where 1; where 3; rel 0 1; where 2; where 4; where 5"},
		{three, "", "where 3; all 0 2; all 0 1; all 0 0; where 0; rel 0 0; rel 0 1; where 2; where 1; where 4; where 5", "where 3; all 0 2; all 0 1; all 0 0; where 0; where 2; rel 0 0; where 1; rel 0 1; where 4; where 5"},
		{three, "n-b", "all 0 0; bound 0 1; all 0 2; rel 0 0; rel 0 1; where 2; where 3; where 1; where 0; where 4; where 5", "all 0 0; bound 0 1; all 0 2; where 2; where 3; rel 0 0; where 1; where 0; rel 0 1; where 4; where 5"},
		// What may go wrong is asked behind all else; also where what can't go wrong stands behind it.
		{"(a), (b) WHERE 1 / a.x = 1 AND a.y = 1 AND true", "", "all 0 0; all 1 0; where 0; where 1; where 2", "all 0 0; all 1 0; where 0; where 1; where 2"},
		{"(a), (b) WHERE a.y = 1 AND $p AND true", "", "all 0 0; all 1 0; where 0; where 1; where 2", "all 0 0; where 0; all 1 0; where 1; where 2"},
		{"(a), (b) WHERE x = 1 AND x.k = 1", "x", "all 1 0; all 0 0; where 0; where 1", "where 0; all 1 0; all 0 0; where 1"},
		{"OPTIONAL MATCH (a), (b) WHERE b.x = 1", "", "all 1 0; all 0 0; where 0", "all 1 0; where 0; all 0 0"},
	} {
		better(t, "Early", rewrite.Early, words.early, x)
	}
}

func TestSharp(t *testing.T) {
	for _, x := range []bettered{
		{one, "", "all 0 0; rel 0 0; where 0", "seek 0 0 A k; rel 0 0; where 0"},
		{one, "", "label 0 0 A; rel 0 0; where 0", "seek 0 0 A k; rel 0 0; where 0"},
		{one, "", "seek 0 0 A k; rel 0 0; where 0", "seek 0 0 A k; rel 0 0; where 0"},
		{one, "", "all 0 1; rel 0 0 back; where 0", "all 0 1; rel 0 0 back; where 0"},
		{one, "", "all 0 1; all 0 0; rel 0 0; where 0", "all 0 1; seek 0 0 A k; rel 0 0; where 0"},
		{one, "n-a", "bound 0 0; rel 0 0; where 0", "bound 0 0; rel 0 0; where 0"},
		{one, "n-a", "all 0 1; bound 0 0; rel 0 0; where 0", "all 0 1; bound 0 0; rel 0 0; where 0"},
		{"(a)", "", "all 0 0", "all 0 0"},
		// The least Label, then Key, whatever stands there already.
		{"(:C:B:D {m: 1, l: 2, z: 3})", "", "all 0 0", "seek 0 0 B l"},
		{"(:C:B:D {m: 1, l: 2, z: 3})", "", "label 0 0 D", "seek 0 0 B l"},
		{"(:C:B:D {m: 1, l: 2, z: 3})", "", "seek 0 0 C m", "seek 0 0 C m"},
		{"(:C:B:D {m: 1, l: 2, z: 3})", "", "seek 0 0 B z", "seek 0 0 B z"},
		{"(:b:B:`B b`:BB:a {k: 1, K: 1})", "", "all 0 0", "seek 0 0 B K"},
		// Parts to which only StepLabel, or nothing else, applies.
		{"(:C:B:D)", "", "all 0 0", "label 0 0 B"}, {"(:C:B:D)", "", "label 0 0 C", "label 0 0 C"}, {"(:C:B {})", "", "all 0 0", "label 0 0 B"}, {"(:C:B {})", "", "label 0 0 C", "label 0 0 C"}, {"({k: 1})", "", "all 0 0", "all 0 0"}, {"({})", "", "all 0 0", "all 0 0"},
		// Several paths; all of them at once, and nothing else.
		{"(a:B:A {k: 1})-->(:C), (b:D), (c), (a:E {l: 1}) WHERE a.x = 1", "", "all 2 0; all 0 1; all 1 0; all 0 0; where 0; rel 0 0; bound 3 0", "all 2 0; label 0 1 C; label 1 0 D; seek 0 0 A k; where 0; rel 0 0; bound 3 0"},
		{"(a:B:A {k: 1})-->(:C), (b:D), (c), (a:E {l: 1}) WHERE a.x = 1", "", "label 3 0 E; label 1 0 D; bound 0 0; rel 0 0; where 0; all 2 0", "seek 3 0 E l; label 1 0 D; bound 0 0; rel 0 0; where 0; all 2 0"},
		{"(a:A)-[r:T {k: 1}]->(b:B)", "", "all 0 0; all 0 1; rel 0 0 back", "label 0 0 A; label 0 1 B; rel 0 0 back"},
	} {
		better(t, "Sharp", rewrite.Sharp, words.sharp, x)
	}
}

// better holds what one of both makes of a plan, that the other way makes the same, and that it makes itself of what it made.
func better(t *testing.T, name string, call makes, other func(words) steplist, x bettered) {
	t.Helper()
	c, v, l := clause(t, x.clause), vars(x.columns), steps(t, x.plan)
	if got := told(call(c, v, l...)); got != x.want {
		t.Errorf("%s: %s with %s: %s: %s, not %s", name, x.clause, x.columns, x.plan, got, x.want)
	}
	if got := line(other(words{c, v, l})); got != x.want {
		t.Errorf("%s: %s with %s: %s: by the words %s", name, x.clause, x.columns, x.plan, got)
	}
	if got := told(call(c, v, steps(t, x.want)...)); got != x.want {
		t.Errorf("%s: %s with %s: of %s again %s", name, x.clause, x.columns, x.want, got)
	}
}
