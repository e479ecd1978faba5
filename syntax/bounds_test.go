package syntax_test

import (
	"strconv"
	"strings"
	"testing"

	"lattice/api"
	"lattice/syntax"
)

// P4.1, the bounds: at each of them, and one past it.

func TestClausesBound(t *testing.T) {
	for _, c := range []string{"MATCH (a) ", "OPTIONAL MATCH (a) ", "UNWIND a AS b ", "WITH a ", "CREATE (a) ", "SET a:b ", "REMOVE a:b ", "DELETE a ", "DETACH DELETE a ", "RETURN a "} {
		most := strings.Repeat(c, api.MaxClauses)
		if q, at, e := syntax.Parse(most); len(q.Clauses) != api.MaxClauses || at != 0 || e != api.OK || syntax.Check(q) != api.OK {
			t.Error(c, len(q.Clauses), at, e)
		}
		wrongAt(t, most+"^"+c, api.ErrTooMany)
		wrongAt(t, most+"^"+c+"#", api.ErrTooMany)
		wrongAt(t, most+"^"+strings.Fields(c)[0], api.ErrTooMany)
		wrongAt(t, most+"^foo", api.ErrSyntax)
		wrongAt(t, most+"^;", api.ErrWord)
	}
}

func TestItemsBound(t *testing.T) {
	for i, x := range []struct {
		ahead, thing, between, behind string
		broken                        string // begins as one more, and goes wrong only behind its first word
		none                          string // does not begin as one more
	}{
		{"MATCH ", "(a)", ", ", "", "(1", "a"},
		{"CREATE ", "(a)", ", ", "", "(1", "where"},
		{"MATCH (a)", "--(a)", "", "", "-)", "]"},
		{"MATCH (a)", "<--(a)", "", "", "<)", ">"},
		{"MATCH (a)", "-[:T]->(a)", " ", "", "-)", "("},
		{"MATCH (a:", "A", ":", ")", "match", "'x'"},
		{"MATCH (:", "`A`", ":", " {})", "b 1", "("},
		{"MATCH ()-[:", "A", "|", "]-()", "match", "'x'"},
		{"MATCH ()-[r:", "A", " | ", " {}]-()", "b 1", ":"},
		{"RETURN ", "1", ", ", "", "- )", "9223372036854775808"},
		{"RETURN ", "a AS b", ", ", "", "not )", "as"},
		{"WITH DISTINCT ", "a", ",", " ORDER BY a", "(1", "where"},
		{"RETURN a ORDER BY ", "a", ", ", "", "f(,", "asc"},
		{"WITH a ORDER BY ", "a DESC", ", ", " SKIP 1 WHERE a", "case )", ")"},
		{"SET ", "a:b", ", ", "", "a )", "match"},
		{"SET ", "a.b = 1", ",", " RETURN a", "`a` )", "1"},
		{"REMOVE ", "a.b", ", ", "", "a )", "match"},
		{"DELETE ", "a", ", ", "", "a )", "match"},
		{"DETACH DELETE ", "`match`", ", ", " RETURN 1", "b )", "("},
		{"RETURN [", "1", ", ", "]", "[,", "9223372036854775808"},
		{"RETURN a[[", "'x'", ", ", "][0]]", "$1", "]"},
		{"UNWIND [", "a", ",", "] AS b", "{1", "*"},
		{"RETURN f(", "1", ", ", ")", "true )", ")"},
		{"RETURN f(DISTINCT ", "null", ", ", ")", "'x' )", "DISTINCT"},
		{"RETURN CASE ", "WHEN a THEN b", " ", " END", "WHEN )", "THEN"},
		{"RETURN CASE ", "WHEN a THEN b", " ", " ELSE c END", "WHEN", "a"},
	} {
		most := x.ahead + strings.Repeat(x.thing+x.between, api.MaxItems-1) + x.thing
		q, at, e := syntax.Parse(most + x.behind)
		if at != 0 || e != api.OK || syntax.Check(q) != api.OK {
			t.Error(i, at, e)
		}
		wrongAt(t, most+x.between+"^"+x.thing+x.behind, api.ErrTooMany)
		wrongAt(t, most+x.between+"^"+x.thing+x.between+x.thing+" #", api.ErrTooMany)
		wrongAt(t, most+x.between+"^"+x.broken, api.ErrTooMany)
		wrongAt(t, most+x.between+"^"+x.none, api.ErrSyntax)
		wrongAt(t, most+x.between+"^#", api.ErrWord)
		wrongAt(t, x.ahead+x.thing+x.between+"^"+x.none, api.ErrSyntax)
	}
}

func TestKeysBound(t *testing.T) {
	var b strings.Builder
	for i := range api.MaxItems {
		b.WriteString("k" + strconv.Itoa(i) + ": 1, ")
	}
	parts := strings.TrimSuffix(b.String(), ", ")
	for _, x := range [][2]string{{"RETURN {", "}"}, {"MATCH (a {", "})"}, {"MATCH ()-[{", "}]-()"}, {"CREATE (a:A {", "})"}} {
		q, at, e := syntax.Parse(x[0] + parts + x[1])
		if at != 0 || e != api.OK || syntax.Check(q) != api.OK {
			t.Error(x, at, e)
		}
		wrongAt(t, x[0]+parts+", ^k: 1"+x[1], api.ErrTooMany)
		wrongAt(t, x[0]+parts+", ^match )", api.ErrTooMany)
		wrongAt(t, x[0]+parts+", ^k7: 1"+x[1], api.ErrSyntax)
		wrongAt(t, x[0]+parts+", ^1: 1", api.ErrSyntax)
		wrongAt(t, x[0]+parts+",^", api.ErrSyntax)
	}
}

// All bounds are each place's own.
func TestBoundsOfOnePlace(t *testing.T) {
	full := strings.TrimSuffix(strings.Repeat("1,", api.MaxItems), ",")
	for _, s := range []string{
		"RETURN [" + full + "], [" + full + "]",
		"RETURN [[" + full + "], [" + full + "], f(" + full + ")]",
		"RETURN " + full + " ORDER BY " + full,
		"MATCH (" + strings.Repeat(":A", api.MaxItems) + ")-[:" + strings.TrimSuffix(strings.Repeat("A|", api.MaxItems), "|") + "]-(" + strings.Repeat(":A", api.MaxItems) + ")",
	} {
		if q, at, e := syntax.Parse(s); at != 0 || e != api.OK || syntax.Check(q) != api.OK {
			t.Errorf("%.30s: %d %v", s, at, e)
		}
	}
}

// nest is a way to put an expression into another one.
type nest struct {
	ahead, behind string
	deep          int // how much deeper it is nested then
	open          int // how many things are open around it
	opens         int // where in ahead the first of them is opened
}

func nests() []nest {
	return []nest{
		{"[", "]", 1, 1, 0}, {"[1, ", ", 2]", 1, 1, 0}, {"{a: ", "}", 1, 1, 0}, {"{b: 1, a: ", ", c: 1}", 1, 1, 0}, {"(", ")", 0, 1, 0},
		{"f(", ")", 1, 1, 1}, {"f(DISTINCT 1, ", ")", 1, 1, 1}, {"count(", ")", 1, 1, 5}, {"a[", "]", 1, 1, 1},
		{"NOT ", "", 1, 1, 0}, {"-", "", 1, 1, 0}, {"NOT (", ")", 1, 2, 0}, {"-(", ")", 1, 2, 0}, {"1 - (", ")", 1, 1, 4},
		{"CASE WHEN ", " THEN 1 END", 1, 1, 0}, {"CASE WHEN 1 THEN ", " END", 1, 1, 0}, {"CASE WHEN 1 THEN 2 ELSE ", " END", 1, 1, 0}, {"CASE WHEN 1 THEN 2 WHEN ", " THEN 3 END", 1, 1, 0},
		{"", "[0]", 1, 0, 0}, {"", ".a", 1, 0, 0}, {"", " + 1", 1, 0, 0}, {"", " = 1", 1, 0, 0}, {"", " OR a", 1, 0, 0}, {"", " IS NULL", 1, 0, 0}, {"", " IS NOT NULL", 1, 0, 0}, {"", ":A", 1, 0, 0},
	}
}

func (x nest) around(s string, n int) string {
	return strings.Repeat(x.ahead, n) + s + strings.Repeat(x.behind, n)
}

func TestDepthBound(t *testing.T) {
	for i, x := range nests() {
		if x.deep == 0 {
			if _, at, e := syntax.ParseExpr(x.around("a", api.MaxOpen)); at != 0 || e != api.OK {
				t.Error(i, at, e)
			}
			continue
		}
		e, at, err := syntax.ParseExpr(x.around("a", api.MaxDepth-1))
		if at != 0 || err != api.OK || syntax.CheckExpr(e) != api.OK || syntax.Text(e) != toldExpr(e) {
			t.Error(i, at, err)
		}
		deep := x.around("a", api.MaxDepth)
		for _, s := range []string{"", "RETURN ", "RETURN 1, ", "MATCH (a) WHERE ", "UNWIND ", "WITH 1 ORDER BY ", "WITH 1 ORDER BY 2, ", "WITH 1 SKIP ", "RETURN 1 LIMIT ", "WITH 1 WHERE ", "SET a.b = ", "SET a:b, a.b = "} {
			if s == "" {
				if e, at, err := syntax.ParseExpr(deep); !same(e, api.Expr{}) || at != 0 || err != api.ErrDeep {
					t.Error(i, at, err)
				}
				continue
			}
			wrongAt(t, s+"^"+deep, api.ErrDeep)
			wrongAt(t, s+"^"+deep+" )", api.ErrDeep)
			wrongAt(t, s+"^(("+deep+"))", api.ErrDeep)
			wrongAt(t, s+"(("+deep+")^", api.ErrSyntax)
			wrongAt(t, s+"(("+deep+" ^#", api.ErrWord)
		}
		wrongAt(t, "RETURN [1, "+deep+", ^)", api.ErrSyntax)
	}
}

// A map of a pattern is an expression that is in no other one.
func TestDepthOfPatterns(t *testing.T) {
	for _, x := range [][2]string{{"MATCH (a ", ")"}, {"CREATE (:A ", ")"}, {"MATCH ()-[", "]-()"}, {"MATCH ()-[a:A ", "]-()"}} {
		lists := func(n int) string { return "{k: " + strings.Repeat("[", n) + strings.Repeat("]", n) + "}" }
		if q, at, e := syntax.Parse(x[0] + lists(api.MaxDepth-1) + x[1]); at != 0 || e != api.OK || syntax.Check(q) != api.OK {
			t.Error(x, at, e)
		}
		wrongAt(t, x[0]+"^"+lists(api.MaxDepth)+x[1], api.ErrDeep)
		wrongAt(t, x[0]+"^"+lists(api.MaxDepth)+" #", api.ErrDeep)
		wrongAt(t, x[0]+"{k: "+strings.Repeat("(", api.MaxOpen-1)+"^(", api.ErrDeep)
		if q, at, e := syntax.Parse(x[0] + "{k: " + strings.Repeat("(", api.MaxOpen-1) + "1" + strings.Repeat(")", api.MaxOpen-1) + "}" + x[1]); at != 0 || e != api.OK || syntax.Check(q) != api.OK {
			t.Error(x, at, e)
		}
	}
}

func TestOpenBound(t *testing.T) {
	for _, x := range nests() {
		if x.open == 0 {
			continue
		}
		n := (api.MaxOpen - 1) / x.open
		ahead := strings.Repeat(x.ahead, n) + strings.Repeat("(", api.MaxOpen-n*x.open)
		for _, more := range []string{"^(", "^[", "^{", "f^(", "a.b^[", "count^(", "count^(*)", "^not a", "^-a", "^- -1", "^case", "^-#", "f^()", "^[]", "^[#", "1 - ^-a"} {
			exprWrongAt(t, ahead+more, api.ErrDeep)
		}
		for _, more := range []string{"^)", "1^(", "a is not ^(", "-1^{", "a.b^(", "- 1 - 1 :^"} {
			exprWrongAt(t, ahead+more, api.ErrSyntax)
		}
		again := strings.Repeat(x.ahead, api.MaxOpen/x.open)
		exprWrongAt(t, again+x.ahead[:x.opens]+"^"+x.ahead[x.opens:]+"a", api.ErrDeep)
	}
	brackets := nest{ahead: "(", behind: ")"}
	exprIs(t, brackets.around("a is not null", api.MaxOpen), of(api.ExprNotNull, "", variable("a")))
	exprIs(t, brackets.around("-5", api.MaxOpen), num(-5))
	// What is at its end is open no more.
	many := strings.Repeat("(1),[1],{a:1},f(1),f(),count(*),a[1],not a,-a,case when a then b end,", 30)
	if _, at, e := syntax.Parse("RETURN " + many + "1"); at != 0 || e != api.OK {
		t.Error(at, e)
	}
	if _, at, e := syntax.ParseExpr("[" + many + "1]"); at != 0 || e != api.OK {
		t.Error(at, e)
	}
}

// Where several bounds are passed at one word, that counts which the chapter names first.
func TestBoundsTogether(t *testing.T) {
	open := strings.Repeat("(", api.MaxOpen-1)
	full := "[" + strings.Repeat("1,", api.MaxItems)
	exprWrongAt(t, open+full+"^(1", api.ErrTooMany)
	exprWrongAt(t, open+full+"^-a", api.ErrTooMany)
	exprWrongAt(t, open+full+"^)", api.ErrSyntax)
	exprWrongAt(t, open+full+"^-1", api.ErrTooMany)
	deep := strings.Repeat("[", api.MaxDepth+1)
	exprWrongAt(t, deep+strings.Repeat("1,", api.MaxItems)+"^1", api.ErrTooMany)
	exprWrongAt(t, deep+strings.Repeat("(", api.MaxOpen-api.MaxDepth-1)+"^(", api.ErrDeep)
	exprWrongAt(t, deep+"^)", api.ErrSyntax)
}

func TestLongRowsOfOperators(t *testing.T) {
	for _, x := range []string{"+1", ".a", "[1]", ":a", " and(1)", " is null", " starts with 1"} {
		s := "a" + strings.Repeat(x, (api.MaxText-4)/len(x))
		if e, at, x := syntax.ParseExpr(s); !same(e, api.Expr{}) || at != 0 || x != api.ErrDeep {
			t.Error(at, x)
		}
		if _, at, x := syntax.ParseExpr(s + " or"); at != len(s)+3 || x != api.ErrSyntax {
			t.Error(at, x)
		}
	}
}
