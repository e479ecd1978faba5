package expr_test

import (
	"strings"
	"testing"

	"lattice/api"
	"lattice/expr"
	"lattice/sema"
	"lattice/value"
)

// P7.2.

func TestTrue(t *testing.T) {
	g, p := world(t), place()
	for _, x := range []row{
		{"true", "true"}, {"false", "false"}, {"null", "false"}, {"n.k = 3", "true"}, {"n.k = 4", "false"}, {"n.z = 3", "false"}, {"y", "true"}, {"n:A", "true"}, {"lost:A", "false"}, {"NOT null", "false"},
		{"true AND true", "true"}, {"true AND false", "false"}, {"true AND null", "false"}, {"null AND true", "false"}, {"n.k = 3 AND r.k = 'w' AND n:A AND NOT m:A", "true"}, {"n.k = 3 AND (r.k = 'w' AND m:A)", "false"}, {"(true AND true) AND (true AND true)", "true"},
		{"false OR true", "true"}, {"true XOR true", "false"}, {"(true AND true) OR 1 / 0 = 1", "true"}, {"NOT (true AND false)", "true"},
		{"1", "!type"}, {"'true'", "!type"}, {"[]", "!type"}, {"{}", "!type"}, {"n", "!type"}, {"r", "!type"}, {"true AND 1", "!type"}, {"true AND (true AND n)", "!type"}, {"1 AND true", "!type"}, {"1 AND false", "!type"},
		{"nowhere", "!var"}, {"$nowhere", "!param"}, {"1 / 0 = 1", "!zero"}, {"count(*)", "!aggregate"}, {"nope()", "!function"}, {"true AND nowhere", "!var"}, {"range(0, 65536) = 1", "!great"}, {"abs(-9223372036854775808) = 1", "!wide"},
	} {
		if got := toldTruth(expr.True(g, p, read(t, x.text))); got != x.want {
			t.Errorf("%s: %s, not %s", x.text, got, x.want)
		}
	}
}

// A condition that is not true ends it: nothing behind it is asked, neither a false one nor nothing; and one of another kind goes wrong at once.
func TestTrueEndsWhereItIsNot(t *testing.T) {
	g, p := world(t), place()
	for _, wrong := range []row{{"nowhere", "!var"}, {"$nowhere", "!param"}, {"1 / 0", "!zero"}, {"1", "!type"}, {"count(*)", "!aggregate"}, {"nope()", "!function"}, {"range(0, 65536)", "!great"}} {
		for _, x := range []row{
			{"false AND W", "false"}, {"null AND W", "false"}, {"true AND null AND W", "false"}, {"true AND (null AND W)", "false"}, {"(null AND W) AND W", "false"}, {"n.z = 1 AND W", "false"}, {"(true AND false) AND (W AND true)", "false"},
			{"W AND false", wrong.want}, {"true AND W", wrong.want}, {"true AND W AND false", wrong.want}, {"true AND (true AND W)", wrong.want}, {"W AND nowhere", wrong.want},
			{"1 AND W", "!type"}, {"true AND 'a' AND W", "!type"}, {"n AND W", "!type"},
		} {
			text := strings.ReplaceAll(x.text, "W", "("+wrong.text+")")
			if got := toldTruth(expr.True(g, p, read(t, text))); got != x.want {
				t.Errorf("%s: %s, not %s", text, got, x.want)
			}
		}
	}
	// As an expression the same goes on behind nothing, and behind what is no truth.
	worth(t, row{"null AND nowhere", "!var"}, row{"1 AND nowhere", "!var"})
}

// True is as its parts are by themselves, one behind the other.
func TestTrueIsItsParts(t *testing.T) {
	g, p := world(t), place()
	parts := []string{"true", "false", "null", "1", "nowhere", "1 / 0", "n.k = 3", "x"}
	for _, a := range parts {
		for _, b := range parts {
			for _, c := range parts {
				for _, text := range []string{"(" + a + ") AND (" + b + ") AND (" + c + ")", "(" + a + ") AND ((" + b + ") AND (" + c + "))"} {
					e := read(t, text)
					want := "true"
					for _, part := range sema.Parts(e) {
						v, no := expr.Eval(g, p, part)
						if no == api.OK && v.Kind != api.ValueBool && v.Kind != api.ValueNull {
							v, no = value.Null(), api.ErrType
						}
						if got := told(v, no); got != "true" {
							want = strings.ReplaceAll(got, "null", "false")
							break
						}
					}
					if got := toldTruth(expr.True(g, p, e)); got != want {
						t.Errorf("%s: %s, not %s", text, got, want)
					}
				}
			}
		}
	}
}
