package sema_test

import (
	"slices"
	"strings"
	"testing"

	"lattice/api"
	"lattice/sema"
	"lattice/syntax"
)

// P6.4, P6.5.

func TestParts(t *testing.T) {
	for s, want := range map[string][]string{
		"a":                                   {"a"},
		"null":                                {"null"},
		"a = 1":                               {"a = 1"},
		"a AND b":                             {"a", "b"},
		"a AND b AND c":                       {"a", "b", "c"},
		"a AND (b AND c)":                     {"a", "b", "c"},
		"(a AND b) AND (c AND d)":             {"a", "b", "c", "d"},
		"((a AND (b AND c)) AND d) AND e":     {"a", "b", "c", "d", "e"},
		"a AND a AND a":                       {"a", "a", "a"},
		"a OR b":                              {"a OR b"},
		"a AND b OR c":                        {"a AND b OR c"},
		"a AND (b OR c AND d)":                {"a", "b OR c AND d"},
		"(a OR b) AND c":                      {"a OR b", "c"},
		"NOT (a AND b)":                       {"NOT (a AND b)"},
		"NOT a AND b":                         {"NOT a", "b"},
		"a XOR b AND c":                       {"a XOR b AND c"},
		"[a AND b]":                           {"[a AND b]"},
		"f(a AND b) AND c":                    {"f(a AND b)", "c"},
		"(a AND b) = c AND d":                 {"(a AND b) = c", "d"},
		"CASE WHEN a AND b THEN c END AND d":  {"CASE WHEN a AND b THEN c END", "d"},
		"`AND`(a, b) AND c":                   {"`AND`(a, b)", "c"},
		"(a AND b) IS NULL":                   {"(a AND b) IS NULL"},
		"'AND' AND `AND` AND $`AND` AND x.k ": {"'AND'", "`AND`", "$`AND`", "x.k"},
	} {
		var l []api.Expr
		for _, p := range want {
			l = append(l, expr(t, p))
		}
		if got := sema.Parts(expr(t, s)); !sameExprs(got, l) {
			t.Errorf("%s: %v", s, got)
		}
	}
	if got := sema.Parts(api.Expr{}); !sameExprs(got, []api.Expr{{}}) {
		t.Error(got)
	}
}

func TestLeading(t *testing.T) {
	have := vars("x n-n r-r")
	for s, want := range map[string]int{
		"true": 1, "null": 1, "1": 0, "x": 0, "n.k": 0, "n.k = 1": 1, "x.k = 1": 0, "y = 1": 0,
		"n.k = 1 AND x.k = 2 AND n.l = 3": 1, "n.k = 1 AND n.l = 2 AND x.k = 3": 2, "x.k = 1 AND n.k = 2 AND n.l = 3": 0, "n.k = 1 AND n:L AND r.k IN [1]": 3, "n:L AND (n.k = 1 AND (x.k = 1 AND n.l = 1))": 2, "(n:L AND n.k = 1) AND (n.l = 1 AND x.k = 1)": 3, "(n:L AND x.k = 1) AND (n.l = 1 AND n.k = 1)": 1,
		"n:L AND x": 1, "n:L AND 1": 1, "x AND n:L": 0, "n:L OR x = 1": 1, "n:L OR x.k = 1": 0, "n:L AND count(*) = 1": 1, "n:L AND y = 1 AND n:L": 1, "n:L AND NOT n.k": 1, "n:L AND NOT n.k = 1": 2,
	} {
		if n := sema.Leading(expr(t, s), have...); n != want {
			t.Errorf("%s: %d", s, n)
		}
	}
	for ahead, want := range map[string]int{"": 0, "n-a": 1, "n-a n-b": 3, "n-a b": 1, "a n-b": 0, "n-b": 0, "r-a r-b": 3} {
		if n := sema.Leading(expr(t, "a.k = 1 AND b.k = 1 AND a.k = b.k"), vars(ahead)...); n != want {
			t.Errorf("%s: %d", ahead, n)
		}
	}
}

// shapes are all the ways to put parts together by AND, in this order.
func shapes(parts []api.Expr) []api.Expr {
	if len(parts) == 1 {
		return parts
	}
	var l []api.Expr
	for i := 1; i < len(parts); i++ {
		for _, a := range shapes(parts[:i]) {
			for _, b := range shapes(parts[i:]) {
				l = append(l, joined("AND", a, b))
			}
		}
	}
	return l
}

// AND within brackets on either side: the parts, and how many lead, do not hang on where the brackets stand.
func TestPartsPutTogether(t *testing.T) {
	have := vars("n-n x")
	texts := strings.Split("n.a = 1;x = 2;NOT n:L;x.k = 3;n.b IS NULL;true;n:L", ";")
	var parts []api.Expr
	for _, s := range texts {
		parts = append(parts, expr(t, s))
	}
	for n := 1; n <= len(parts); n++ {
		for _, e := range shapes(parts[:n]) {
			got := sema.Parts(e)
			if !sameExprs(got, parts[:n]) || !sameExprs(sema.Parts(andFromLeft(got...)), got) {
				t.Fatal(syntax.Text(e), got)
			}
			if k := sema.Leading(e, have...); k != min(n, 3) {
				t.Fatal(syntax.Text(e), k)
			}
			if sema.Truth(e, have...) != (sema.Leading(e, have...) == n) {
				t.Fatal(syntax.Text(e))
			}
		}
	}
}

// A Where of many parts, put together from the left, is nested deeper than layer 4 lets it be, and has the same parts all the same.
func TestManyParts(t *testing.T) {
	have := vars("x")
	for _, n := range []int{api.MaxDepth - 1, api.MaxDepth, api.MaxDepth + 1, 1000, 1 << 16} {
		var parts, turned []api.Expr
		for i := range n {
			parts = append(parts, joined("=", variable("x"), number(int64(i))))
		}
		left := andFromLeft(parts...)
		right := parts[n-1]
		for i := n - 2; i >= 0; i-- {
			right = joined("AND", parts[i], right)
		}
		turned = sema.Parts(right)
		if !sameExprs(turned, parts) || !sameExprs(sema.Parts(left), parts) {
			t.Fatal(n, len(turned))
		}
		if a, b := sema.Leading(left, have...), sema.Leading(right, have...); a != n || b != n {
			t.Fatal(n, a, b)
		}
		if sema.Truth(left, have...) != (n < api.MaxDepth) { // each part is nested itself
			t.Fatal(n)
		}
	}
	// A balanced tree of as many is flat enough to be asked whole.
	e := expr(t, "x = 1")
	for range 10 {
		e = joined("AND", e, e)
	}
	parts := sema.Parts(e)
	if len(parts) != 1<<10 || !sema.Truth(e, have...) || sema.Leading(e, have...) != 1<<10 || !sameExprs(sema.Parts(andFromLeft(parts...)), parts) {
		t.Fatal(len(parts))
	}
}

func TestPartsOfExpressionsThatLayer4Refuses(t *testing.T) {
	have := vars("x n-n")
	for what, e := range refusedExprs() {
		if got := sema.Parts(e); !sameExprs(got, []api.Expr{e}) {
			t.Errorf("%s: %v", what, got)
		}
		if n := sema.Leading(e, have...); n != 0 {
			t.Errorf("%s: %d", what, n)
		}
		yes := expr(t, "n:L")
		all := joined("AND", yes, joined("AND", e, yes))
		if got := sema.Parts(all); !sameExprs(got, []api.Expr{yes, e, yes}) || !sameExprs(sema.Parts(andFromLeft(got...)), got) {
			t.Errorf("%s: %v", what, got)
		}
		if n := sema.Leading(all, have...); n != 1 {
			t.Errorf("%s within: %d", what, n)
		}
	}
}

// What is answered shares no memory with what was handed in, nor within itself; what was handed in is not changed.
func TestPartsAreNewMemory(t *testing.T) {
	e := expr(t, "n.k = 1 AND {k: [n]} = x")
	e = joined("AND", e, e) // the same memory twice
	before := syntax.Copy(e)
	parts := sema.Parts(e)
	want := sema.Parts(before)
	for i := range parts {
		for k := range parts[i].Kids {
			parts[i].Kids[k] = number(7)
		}
		for k := i + 1; k < len(parts); k++ {
			if !syntax.SameExpr(parts[k], want[k]) {
				t.Fatal(i, k)
			}
		}
	}
	if !syntax.SameExpr(e, before) {
		t.Fatal(e)
	}
	deep := sema.Parts(before)
	deep[1].Kids[0].Keys[0] = "other"
	deep[1].Kids[0].Kids[0].Kids[0].Name = "other"
	if !syntax.SameExpr(deep[3], want[3]) || !syntax.SameExpr(before, e) {
		t.Fatal(deep[3], before)
	}
	names := sema.Uses(e)
	names[0] = "other"
	if !slices.Equal(sema.Uses(e), []string{"n", "x"}) {
		t.Fatal(sema.Uses(e))
	}
}
