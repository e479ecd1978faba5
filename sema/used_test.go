package sema_test

import (
	"slices"
	"strings"
	"testing"

	"lattice/api"
	"lattice/sema"
)

// P6.1: Used; P6.2.

func TestUsed(t *testing.T) {
	have := vars("x n-n r-r a_b")
	for want, l := range map[api.Errno][]string{
		api.OK: {
			"null", "true", "1", "'x'", "$p", "$nobody", "x", "n", "r", "`a b`", "x.k", "x.nobody", "x[n]", "[]", "[x, [n]]", "{}", "{nobody: x}", "NOT x", "-(x)", "x IS NULL", "x IS NOT NULL", "x:nobody", "x + n * r", "x STARTS WITH 'a' AND n IN r", "CASE WHEN x THEN n END", "CASE WHEN x THEN n WHEN 1 THEN 2 ELSE r END",
			"id(x)", "labels(x)", "type(x)", "size(x)", "head(x)", "last(x)", "abs(x)", "keys(x)", "toString(x)", "range(1, 2)", "range(x, n, r)", "coalesce(x)", "coalesce(x, n, r, x, n, r)", "abs(abs(abs(x)))", "`abs`(x)",
			"coalesce(" + strings.Repeat("x, ", api.MaxItems-1) + "x)",
		},
		api.ErrVar: {
			"y", "X", "abs", "count", "$p + y", "y.k", "x[y]", "y[x]", "[x, y]", "{k: y}", "NOT y", "-y", "y IS NULL", "y IS NOT NULL", "y:L", "x = y", "y = x", "abs(y)", "coalesce(x, y)", "CASE WHEN y THEN 1 END", "CASE WHEN x THEN y END", "CASE WHEN x THEN 1 ELSE y END",
			"y + nope()", "[y, count(*)]", "abs(y + nope())", "{k: x, l: y, m: nope()}", "CASE WHEN x THEN y ELSE count(*) END", "y[nope()]", "`a  b`",
		},
		api.ErrFunction: {
			"nope()", "nope(x)", "Abs(x)", "ABS(x)", "toSTRING(x)", "abs()", "abs(x, x)", "id()", "id(x, x)", "labels()", "type(x, x)", "size()", "head(x, x)", "last()", "keys(x, x)", "toString()", "range()", "range(x)", "range(x, x, x, x)", "coalesce()",
			"abs(DISTINCT x)", "range(DISTINCT 1, 2)", "coalesce(DISTINCT x)", "Count(x)", "Count()", "SUM(x)", "avg(x)", "nope(DISTINCT x)",
			"nope(y)", "abs(y, y)", "coalesce(x, nope(y), count(*))", "nope(count(*))", "nope(count())", "abs(count(), 1)", "abs(DISTINCT sum(1, 2))", "[abs(), count()]", "abs(DISTINCT count(*))", "nope() + y", "NOT nope(y)",
		},
		api.ErrAggregate: {
			"count(*)", "COUNT(*)", "count(x)", "count(DISTINCT x)", "sum(x)", "min(x)", "max(x)", "collect(x)", "collect(DISTINCT x)", "`count`(x)",
			"1 + count(*)", "[count(*)]", "{k: sum(1)}", "abs(count(x))", "-count(*)", "NOT max(x)", "min(x).k", "x[count(*)]", "count(*) IS NULL", "CASE WHEN true THEN count(*) END", "count(*):L",
			"count(y)", "sum(nope())", "count(count(y))", "[x, count(*), y]", "abs(max(y))", "count(*) + nope()",
			"count()", "sum()", "min()", "max()", "collect()", "count(x, x)", "sum(x, x)", "min(x, x)", "max(x, x)", "collect(x, x)", "count(DISTINCT x, x)", "sum(x, x, x)", "`count`()",
			"abs(count())", "[collect(1, 2)]", "1 + sum()", "{k: min(x, x)}", "NOT max()", "-count()", "x[collect(x, x)]", "sum() IS NULL", "count().k", "CASE WHEN count() THEN 1 END", "CASE WHEN x THEN min() ELSE y END",
			"count(y, y)", "sum(nope(), y)", "count(sum(), y)", "[count(), y, nope()]", "collect(abs(), 1)",
		},
	} {
		for _, s := range l {
			if e := sema.Used(expr(t, s), have...); e != want {
				t.Errorf("%s: %v", s, e)
			}
		}
	}
	for _, s := range []string{"1", "$p", "abs(1)"} {
		if e := sema.Used(expr(t, s)); e != api.OK {
			t.Errorf("%s: %v", s, e)
		}
	}
	if e := sema.Used(variable("x")); e != api.ErrVar {
		t.Error(e)
	}
}

func TestUsedOfExpressionsThatLayer4Refuses(t *testing.T) {
	for what, e := range refusedExprs() {
		for _, x := range []api.Expr{e, not(e), joined("=", variable("nobody"), e)} {
			if no := sema.Used(x, vars("x n-n")...); no != api.ErrArg {
				t.Errorf("%s: %v", what, no)
			}
		}
	}
}

func TestUses(t *testing.T) {
	for s, want := range map[string]string{
		"1": "", "$a": "", "a": "a", "a.b": "a", "a[b]": "a b", "b[a]": "a b", "[c, a, b, a, c]": "a b c", "{k: b, a: a}": "a b", "f(b, a)": "a b", "f(DISTINCT a)": "a", "count(*)": "", "count(a)": "a", "a OR b OR c OR a": "a b c", "NOT a": "a", "-a": "a", "a IS NULL": "a", "a IS NOT NULL": "a", "a:b": "a", "a IN [b, 'c', $d]": "a b",
		"CASE WHEN c THEN b WHEN a THEN d ELSE e END": "a b c d e", "CASE WHEN a THEN a END": "a", "B + a + A + b": "A B a b", "aa + a + b + ab": "a aa ab b", "nope(x, count(count(y)))": "x y", "é + z": "z é",
	} {
		if s == "é + z" {
			s = "`é` + z"
		}
		if l := sema.Uses(expr(t, s)); !slices.Equal(l, strings.Fields(want)) {
			t.Errorf("%s: %q", s, l)
		}
	}
	many := list()
	for i := range 26 {
		many.Kids = append(many.Kids, variable(string(rune('z'-i))), variable(string(rune('a'+i*7%26))))
	}
	if l := sema.Uses(many); strings.Join(l, "") != "abcdefghijklmnopqrstuvwxyz" {
		t.Error(l)
	}
}

// What layer 4 refuses has variables all the same.
func TestUsesOfExpressionsThatLayer4Refuses(t *testing.T) {
	for what, e := range refusedExprs() {
		if l := sema.Uses(list(variable("z"), e, variable("y"))); !slices.Contains(l, "z") || !slices.Contains(l, "y") || !slices.IsSorted(l) {
			t.Errorf("%s: %q", what, l)
		}
	}
	deep := variable("a")
	for range 1 << 16 {
		deep = not(deep)
	}
	if l := sema.Uses(deep); !slices.Equal(l, []string{"a"}) {
		t.Error(l)
	}
}

// A call is an aggregate's by its name, however many Kids it has.
func TestAggregate(t *testing.T) {
	for s, want := range map[string]bool{
		"count(*)": true, "COUNT(*)": true, "count(x)": true, "sum(x)": true, "min(x)": true, "max(x)": true, "collect(x)": true, "count(DISTINCT x)": true, "sum(DISTINCT x)": true, "min(DISTINCT x)": true, "max(DISTINCT 1)": true, "collect(DISTINCT x)": true, "count(count(*))": true, "sum(nope())": true, "(count(*))": true,
		"count()": true, "sum()": true, "min()": true, "max()": true, "collect()": true, "count(x, y)": true, "sum(x, y)": true, "min(x, y)": true, "max(x, y)": true, "collect(x, y)": true, "min(DISTINCT x, y)": true, "max(x, y, z)": true, "count(nope(), sum())": true,
		"abs(count())": false, "[collect(x, y)]": false, "-sum()": false, "Count()": false, "nope()": false, "abs()": false, "Count(x)": false, "COUNT(x)": false, "abs(x)": false, "coalesce(x)": false, "range(1, 2)": false, "nope(x)": false, "abs(count(*))": false, "[count(*)]": false, "1 + count(*)": false, "-count(*)": false, "NOT count(x)": false, "count": false, "1": false, "$count": false, "x.count": false, "'count'": false, "null": false, "count(*) IS NULL": false,
		"CASE WHEN true THEN count(*) END": false,
	} {
		if sema.Aggregate(expr(t, s)) != want {
			t.Errorf("%s: %v", s, !want)
		}
	}
	for what, e := range refusedExprs() {
		sema.Aggregate(e)
		if sema.Aggregate(not(e)) {
			t.Errorf("%s", what)
		}
	}
	for _, k := range []api.ExprKind{api.ExprLiteral, api.ExprVar, api.ExprParam, api.ExprProp, api.ExprBin, -1, 99} {
		if sema.Aggregate(api.Expr{Kind: k, Name: "count", Kids: []api.Expr{number(1)}}) {
			t.Errorf("%d", k)
		}
	}
}
