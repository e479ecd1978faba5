package sema_test

import (
	"math/rand/v2"
	"slices"
	"strings"
	"testing"

	"lattice/api"
	"lattice/sema"
	"lattice/syntax"
)

// P6.3, P6.5.

// judged holds what Safe and Truth tell against what is wanted: "truth", "safe" or "".
func judged(t *testing.T, e api.Expr, want, what string, have ...api.Var) {
	t.Helper()
	safe, truth := sema.Safe(e, have...), sema.Truth(e, have...)
	if safe != (want != "") || truth != (want == "truth") {
		t.Errorf("%s: safe %v, a truth %v", what, safe, truth)
	}
}

func TestSafe(t *testing.T) {
	have := vars("x n-n r-r")
	for want, l := range map[string][]string{
		"truth": {
			"true", "false", "null", "x = 1", "1 <> 'a'", "x < n", "r <= null", "n.k > r.k", "$p >= $q", "n.k STARTS WITH 'a'", "x ENDS WITH 1", "1 CONTAINS r", "true = x", "(x = 1) = (n:L)", "x IS NULL < n.k", "(NOT true) STARTS WITH 'a'",
			"x IN []", "n.k IN [1, 'a', true, null, -5]", "$p IN [1]", "(x = 1) IN [true]", "x IS NULL", "n.k IS NOT NULL", "(x IS NULL) IS NULL", "5 IS NULL", "$p IS NOT NULL", "(n:L) IS NULL", "n:L", "n:`no name`",
			"NOT true", "NOT null", "NOT n:L", "NOT NOT x = 1", "x = 1 AND n:L", "true OR false", "null XOR true", "NOT (x = 1 OR n:L XOR r.k IN [1]) AND null",
		},
		"safe": {"1", "-5", "'a'", "''", "x", "n", "r", "$p", "$`no var`", "n.k", "r.k", "n.`no var`", "(x)"},
		"": {
			"y", "y.k", "x.k", "n.k.l", "$p.k", "r.k.l", "null.k", "(n).k[0]", "n[0]", "x['k']", "[]", "[1]", "[x]", "{}", "{k: 1}", "1 + 2", "x + 1", "n.k - 1", "1 * 1", "1 / 1", "1 % 1", "-x", "-(5)", "id(n)", "abs(1)", "coalesce(1)", "count(*)", "count(n)", "nope(1)", "range(1, 2)",
			"CASE WHEN true THEN 1 END", "CASE WHEN true THEN true ELSE false END", "x:L", "r:L", "y:L", "$p:L", "null:L", "n.k:L", "(n):L:M",
			"NOT 1", "NOT x", "NOT n.k", "NOT $p", "NOT y", "NOT 'a'", "x AND true", "true AND x", "n.k AND true", "true OR n.k", "$p OR true", "1 XOR true", "true XOR $p", "x = 1 AND y", "y OR true", "x = 1 AND 1 + 1 = 2", "NOT 1 + 1 = 2",
			"y = 1", "1 = y", "x.k = 1", "1 = x.k", "[1] = 1", "1 < 1 + 1", "1 + 1 < 1", "x <= abs(1)", "abs(1) >= x", "y STARTS WITH 'a'", "'a' ENDS WITH y", "[1] CONTAINS 1", "x CONTAINS {}", "n.k > x.k",
			"x IN x", "x IN n.k", "x IN $p", "x IN null", "x IN 1", "x IN [x]", "x IN [1, n.k]", "x IN [$p]", "x IN [[1]]", "x IN [-(1)]", "x IN [{}]", "x IN [1 + 1]", "y IN [1]", "x.k IN [1]", "[1] IN [1]", "1 + 1 IN [1]", "x IN [1, [2]]", "x IN [[], 1]", "x IN [null IS NULL]", "x IN {}",
			"y IS NULL", "x.k IS NULL", "[1] IS NULL", "1 + 1 IS NOT NULL", "y IS NOT NULL", "x.k IS NOT NULL", "abs(1) IS NULL", "x:L IS NULL",
		},
	} {
		for _, s := range l {
			judged(t, expr(t, s), want, s, have...)
		}
	}
}

// The same expression with other variables.
func TestSafeByVariables(t *testing.T) {
	for _, x := range []struct{ text, vars, want string }{
		{"a", "", ""}, {"a", "a", "safe"}, {"a", "n-a", "safe"}, {"a", "r-a", "safe"}, {"a", "b", ""},
		{"a.k", "", ""}, {"a.k", "a", ""}, {"a.k", "n-a", "safe"}, {"a.k", "r-a", "safe"},
		{"a:L", "", ""}, {"a:L", "a", ""}, {"a:L", "n-a", "truth"}, {"a:L", "r-a", ""},
		{"a.k = b.k", "n-a", ""}, {"a.k = b.k", "n-a b", ""}, {"a.k = b.k", "n-a r-b", "truth"}, {"a.k = b.k", "r-b n-a c", "truth"},
		{"a.k", "n-a a", "safe"}, {"a.k", "a n-a", ""}, {"a:L", "n-a r-a", "truth"}, {"a:L", "r-a n-a", ""},
		{"1", "", "safe"}, {"$p", "", "safe"}, {"null", "", "truth"},
	} {
		judged(t, expr(t, x.text), x.want, x.text+" with "+x.vars, vars(x.vars)...)
	}
	odd := []api.Var{{Name: "a", Kind: 3}, {Name: "b", Kind: -1}}
	for text, want := range map[string]string{"a": "safe", "b": "safe", "a.k": "", "b.k": "", "a:L": "", "b:L": ""} {
		judged(t, expr(t, text), want, text, odd...)
	}
}

// MaxRows literals in a list of IN go, one more does not; so do MaxText bytes of all their texts together.
func TestBoundsOfIn(t *testing.T) {
	in := func(l ...api.Expr) api.Expr { return joined("IN", variable("x"), list(l...)) }
	have := vars("x")
	for n, want := range map[int]string{0: "truth", 1: "truth", api.MaxItems: "truth", api.MaxItems + 1: "truth", api.MaxRows: "truth", api.MaxRows + 1: "", 2 * api.MaxRows: ""} {
		e := in(slices.Repeat([]api.Expr{number(1)}, n)...)
		judged(t, e, want, "literals", have...)
		judged(t, not(joined("OR", e, e)), want, "literals within", have...)
		if want != "" && n > 0 {
			for _, at := range []int{0, n / 2, n - 1} {
				for what, flaw := range map[string]api.Expr{"a list": list(), "no UTF-8": text("\xff"), "a literal with a name": {Name: "x"}} {
					other := slices.Repeat([]api.Expr{number(1)}, n)
					other[at] = flaw
					judged(t, in(other...), "", what, have...)
				}
			}
		}
	}
	half := strings.Repeat("t", api.MaxText/2)
	for _, x := range []struct {
		texts []string
		want  string
	}{
		{[]string{half}, "truth"}, {[]string{half, half}, "truth"}, {[]string{half, half, ""}, "truth"}, {[]string{half, half, "t"}, ""}, {[]string{"t", half, half}, ""}, {[]string{half + half}, "truth"}, {[]string{half + half + "t"}, ""}, {[]string{half, half, half, half}, ""},
	} {
		var l []api.Expr
		for _, s := range x.texts {
			l = append(l, text(s), number(1))
		}
		judged(t, in(l...), x.want, "texts", have...)
		judged(t, joined("AND", nested(3), in(l...)), x.want, "texts within", have...)
	}
	two := joined("OR", in(text(half)), in(text(half), text(half)))
	judged(t, two, "truth", "each list by itself", have...)
}

// A text that no value may have goes wrong when it is worked out (layer 7), so it can't be called safe.
func TestLiteralsThatAreTooGreat(t *testing.T) {
	most := text(strings.Repeat("t", api.MaxText))
	judged(t, most, "safe", "MaxText bytes")
	judged(t, joined("=", most, most), "truth", "two of MaxText bytes")
	more := text(most.Value.Text + "t")
	judged(t, more, "", "one byte more")
	judged(t, joined("=", number(1), more), "", "= one byte more")
	judged(t, joined("IN", more, list(number(1))), "", "one byte more IN")
	judged(t, api.Expr{Kind: api.ExprIsNull, Kids: []api.Expr{more}}, "", "one byte more IS NULL")
}

func TestSafeOfExpressionsThatLayer4Refuses(t *testing.T) {
	have := vars("x n-n")
	for what, e := range refusedExprs() {
		judged(t, e, "", what, have...)
		judged(t, joined("OR", nested(2), not(e)), "", what+" within", have...)
		judged(t, joined("=", variable("x"), e), "", what+" within =", have...)
		judged(t, joined("IN", e, list()), "", what+" within IN", have...)
	}
	judged(t, nested(api.MaxDepth), "truth", "as deep as may be")
	judged(t, nested(api.MaxDepth+1), "", "too deep")
	judged(t, nested(1<<16), "", "much too deep")
}

// grown are expressions made of others in each way in which two can be, those that are safe and those that are a Truth told by the chapter's words from the ground up.
type grown struct {
	all         []api.Expr
	safe, truth map[string]bool // by their texts
}

func (g *grown) add(e api.Expr, kind string) {
	g.all = append(g.all, e)
	s := syntax.Text(e)
	if kind != "" {
		g.safe[s] = true
	}
	if kind == "truth" {
		g.truth[s] = true
	}
}

func (g *grown) isSafe(e api.Expr) bool  { return g.safe[syntax.Text(e)] }
func (g *grown) isTruth(e api.Expr) bool { return g.truth[syntax.Text(e)] }

func kindIf(yes bool) string {
	if yes {
		return "truth"
	}
	return ""
}

// grow adds what can be made of one or two of some expressions.
func (g *grown) grow(t *testing.T, from []api.Expr, operators []string) {
	one := func(k api.ExprKind, name string, e api.Expr) api.Expr {
		return api.Expr{Kind: k, Name: name, Kids: []api.Expr{e}}
	}
	lists := []string{"[]", "[1]", "[1, 'a', null]"}
	for _, a := range from {
		g.add(one(api.ExprNot, "", a), kindIf(g.isTruth(a)))
		g.add(one(api.ExprIsNull, "", a), kindIf(g.isSafe(a)))
		g.add(one(api.ExprNotNull, "", a), kindIf(g.isSafe(a)))
		g.add(one(api.ExprNeg, "", a), "")
		g.add(one(api.ExprCall, "abs", a), "")
		g.add(one(api.ExprCall, "count", a), "")
		if a.Kind != api.ExprVar { // those stand among the first ones
			g.add(one(api.ExprProp, "k", a), "")
			g.add(one(api.ExprLabel, "L", a), "")
		}
		for _, l := range lists {
			g.add(joined("IN", a, expr(t, l)), kindIf(g.isSafe(a)))
		}
	}
	for _, o := range operators {
		for _, a := range from {
			for _, b := range from {
				kind := ""
				switch o {
				case "AND", "OR", "XOR":
					kind = kindIf(g.isTruth(a) && g.isTruth(b))
				case "=", "<>", "<", "<=", ">", ">=", "STARTS", "ENDS", "CONTAINS":
					kind = kindIf(g.isSafe(a) && g.isSafe(b))
				}
				if o != "IN" || b.Kind != api.ExprList {
					g.add(joined(o, a, b), kind)
				}
			}
		}
	}
}

func TestSafeFromTheGroundUp(t *testing.T) {
	have := vars("x n-n r-r")
	operators := []string{"OR", "XOR", "AND", "=", "<>", "<", "<=", ">", ">=", "IN", "STARTS", "ENDS", "CONTAINS", "+", "-", "*", "/", "%"}
	g := &grown{safe: map[string]bool{}, truth: map[string]bool{}}
	for _, first := range []struct {
		kind  string
		texts []string
	}{ // in one order, since what is picked below hangs on it
		{"truth", []string{"true", "null", "n:L"}},
		{"safe", []string{"1", "'a'", "x", "n", "r", "$p", "n.k", "r.k"}},
		{"", []string{"y", "x.k", "y.k", "x:L", "r:L", "y:L", "[1]", "[x]", "{k: 1}", "count(*)", "n[0]", "CASE WHEN true THEN true END"}},
	} {
		for _, s := range first.texts {
			g.add(expr(t, s), first.kind)
		}
	}
	g.grow(t, slices.Clone(g.all), operators)
	r := rand.New(rand.NewPCG(6, 3))
	for range 3 {
		var some []api.Expr
		for len(some) < 40 {
			e := g.all[r.IntN(len(g.all))]
			if r.IntN(3) == 0 || g.isSafe(e) {
				some = append(some, e)
			}
		}
		g.grow(t, some, operators)
	}
	truths := 0
	for _, e := range g.all {
		s := syntax.Text(e)
		if sema.Safe(e, have...) != g.safe[s] || sema.Truth(e, have...) != g.truth[s] {
			t.Fatalf("%s: safe %v, a truth %v", s, !g.safe[s], !g.truth[s])
		}
		if g.truth[s] {
			truths++
		}
		if g.safe[s] && sema.Used(e, have...) != api.OK {
			t.Fatalf("%s is safe, but not well used", s)
		}
	}
	if truths < 5000 || len(g.all)-truths < 5000 {
		t.Error(truths, len(g.all))
	}
}
