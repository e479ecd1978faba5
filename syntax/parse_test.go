package syntax_test

import (
	"math"
	"strings"
	"testing"

	"lattice/api"
	"lattice/syntax"
	"lattice/value"
)

func num(n int64) api.Expr           { return api.Expr{Value: value.Int(n)} }
func str(s string) api.Expr          { return api.Expr{Value: value.String(s)} }
func truth(b bool) api.Expr          { return api.Expr{Value: value.Bool(b)} }
func null() api.Expr                 { return api.Expr{} }
func param(s string) api.Expr        { return api.Expr{Kind: api.ExprParam, Name: s} }
func variable(s string) api.Expr     { return api.Expr{Kind: api.ExprVar, Name: s} }
func list(kids ...api.Expr) api.Expr { return of(api.ExprList, "", kids...) }

func of(k api.ExprKind, name string, kids ...api.Expr) api.Expr {
	return api.Expr{Kind: k, Name: name, Kids: kids}
}

func bin(a api.Expr, name string, b api.Expr) api.Expr { return of(api.ExprBin, name, a, b) }

func maps(keys []string, kids ...api.Expr) api.Expr {
	return api.Expr{Kind: api.ExprMap, Keys: keys, Kids: kids}
}

// exprIs holds what an expression's text is read as.
func exprIs(t *testing.T, s string, want api.Expr) {
	t.Helper()
	if e, at, x := syntax.ParseExpr(s); x != api.OK || at != 0 || !same(e, want) {
		t.Errorf("%s: %+v %d %v", s, e, at, x)
	}
	if q, at, x := syntax.Parse("RETURN " + s); x != api.OK || at != 0 || !same(q.Clauses, []api.Clause{{Kind: api.ClauseReturn, Items: []api.Item{{Expr: want}}}}) {
		t.Errorf("RETURN %s: %+v %d %v", s, q, at, x)
	}
}

// queryIs holds what a query's text is read as.
func queryIs(t *testing.T, s string, want ...api.Clause) {
	t.Helper()
	if q, at, e := syntax.Parse(s); e != api.OK || at != 0 || !same(q.Clauses, want) {
		t.Errorf("%s: %+v %d %v", s, q, at, e)
	}
}

// wrongAt holds that a query's text is refused where a ^ stands in it.
func wrongAt(t *testing.T, marked string, want api.Errno) {
	t.Helper()
	place := strings.Index(marked, "^")
	s := strings.Replace(marked, "^", "", 1)
	if q, at, e := syntax.Parse(s); len(q.Clauses) != 0 || at != place || e != want {
		t.Errorf("%.60q: %d %v, not %d", s, at, e, place)
	}
}

// exprWrongAt is so of an expression's text, by itself and in a query.
func exprWrongAt(t *testing.T, marked string, want api.Errno) {
	t.Helper()
	place := strings.Index(marked, "^")
	s := strings.Replace(marked, "^", "", 1)
	if e, at, x := syntax.ParseExpr(s); !same(e, api.Expr{}) || at != place || x != want {
		t.Errorf("%.60q: %d %v, not %d", s, at, x, place)
	}
	wrongAt(t, "MATCH (a) WHERE "+marked, want)
	wrongAt(t, "UNWIND "+marked, want)
}

// P4.1

func TestExamples(t *testing.T) {
	q, at, e := syntax.Parse("match (a:Person{name:'x'})-[r:KNOWS|LIKES]->(b), (c)--() where a.age>3+1*2 and not b:Old return a.name as n,count(*) order by n desc limit 2")
	s, x := syntax.Print(q)
	if want := "MATCH (a:Person {name: 'x'})-[r:KNOWS|LIKES]->(b), (c)--() WHERE (a.age > (3 + (1 * 2))) AND (NOT (b:Old)) RETURN a.name AS n, count(*) ORDER BY n DESC LIMIT 2"; s != want || at != 0 || e != api.OK || x != api.OK {
		t.Error(s, at, e, x)
	}
	texts := map[string]string{"-5": "-5", "-(5)": "-(5)", "- - 5": "-(-5)", "a-5": "a - 5", "-a.b[0]": "-(a.b[0])", "case when a then 1 end": "CASE WHEN a THEN 1 ELSE null END", "[1,'a']": "[1, 'a']", "{x:1}": "{x: 1}", "f(distinct a)": "f(DISTINCT a)", "a is not null": "a IS NOT NULL", "(a)": "a"}
	for s, want := range texts {
		if e, at, x := syntax.ParseExpr(s); x != api.OK || at != 0 || syntax.Text(e) != want {
			t.Error(s, syntax.Text(e), at, x)
		}
	}
	for _, s := range []string{"^", "MATCH^", "RETURN 1,^", "RETURN ^9223372036854775808", "MATCH (a)<--^>(b)", "RETURN {a: 1, ^a: 2}"} {
		wrongAt(t, s, api.ErrSyntax)
	}
	wrongAt(t, "RETURN 1 ^#", api.ErrWord)
}

func TestEachExpression(t *testing.T) {
	a, b, c := variable("a"), variable("b"), variable("c")
	for s, want := range map[string]api.Expr{
		"null": null(), "NULL": null(), "nUlL": null(), "true": truth(true), "FALSE": truth(false), "`null`": variable("null"), "`true`": variable("true"),
		"0": num(0), "-0": num(0), "7": num(7), "-7": num(-7), "- 7": num(-7), "-/* */7": num(-7), "-//\n7": num(-7),
		"9223372036854775807": num(math.MaxInt64), "-9223372036854775807": num(-math.MaxInt64), "-9223372036854775808": num(math.MinInt64), "- \n9223372036854775808": num(math.MinInt64),
		"'x'": str("x"), `"it's"`: str("it's"), `''`: str(""), `'\u0000\n'`: str("\x00\n"),
		"$a": param("a"), "$ a": param("a"), "$match": param("match"), "$`a b`": param("a b"), "$NULL": param("NULL"),
		"a": a, "`a`": a, "count": variable("count"), "Count": variable("Count"), "`match`": variable("match"), "_": variable("_"), strings.Repeat("x", 64): variable(strings.Repeat("x", 64)),
		"a.b": of(api.ExprProp, "b", a), "a . b": of(api.ExprProp, "b", a), "a.end": of(api.ExprProp, "end", a), "a.`x y`": of(api.ExprProp, "x y", a), "a.b.c": of(api.ExprProp, "c", of(api.ExprProp, "b", a)),
		"5.a": of(api.ExprProp, "a", num(5)), "-5.a": of(api.ExprProp, "a", num(-5)), "-(5).a": of(api.ExprNeg, "", of(api.ExprProp, "a", num(5))), "(-5).a": of(api.ExprProp, "a", num(-5)), "'x'.a": of(api.ExprProp, "a", str("x")), "null.a": of(api.ExprProp, "a", null()),
		"a[0]": of(api.ExprIndex, "", a, num(0)), "a[b[c]]": of(api.ExprIndex, "", a, of(api.ExprIndex, "", b, c)), "a[b][c]": of(api.ExprIndex, "", of(api.ExprIndex, "", a, b), c), "[a][0]": of(api.ExprIndex, "", list(a), num(0)), "a.b[0].c": of(api.ExprProp, "c", of(api.ExprIndex, "", of(api.ExprProp, "b", a), num(0))), "a[b or c]": of(api.ExprIndex, "", a, bin(b, "OR", c)), "-5[0]": of(api.ExprIndex, "", num(-5), num(0)),
		"[]": list(), "[a]": list(a), "[a,b , c]": list(a, b, c), "[[],[a]]": list(list(), list(a)), "[a or b]": list(bin(a, "OR", b)),
		"{}": maps(nil), "{a:1}": maps([]string{"a"}, num(1)), "{b:1,a:2}": maps([]string{"b", "a"}, num(1), num(2)), "{match: 1, `x y`: a, A: 2, a: 3}": maps([]string{"match", "x y", "A", "a"}, num(1), a, num(2), num(3)), "{a: b:c}": maps([]string{"a"}, of(api.ExprLabel, "c", b)), "{a: {a: 1}}": maps([]string{"a"}, maps([]string{"a"}, num(1))),
		"f()": of(api.ExprCall, "f"), "f(a)": of(api.ExprCall, "f", a), "f (a, b)": of(api.ExprCall, "f", a, b), "`f`(a)": of(api.ExprCall, "f", a), "`match`()": of(api.ExprCall, "match"), "F(distinct a)": {Kind: api.ExprCall, Name: "F", Kids: []api.Expr{a}, Distinct: true}, "f(DISTINCT a, b)": {Kind: api.ExprCall, Name: "f", Kids: []api.Expr{a, b}, Distinct: true},
		"count(a)": of(api.ExprCall, "count", a), "Count()": of(api.ExprCall, "Count"), "`count`(a)": of(api.ExprCall, "count", a), "count(*)": of(api.ExprCount, ""), "COUNT ( * )": of(api.ExprCount, ""), "count(*).a": of(api.ExprProp, "a", of(api.ExprCount, "")), "count(-a)": of(api.ExprCall, "count", of(api.ExprNeg, "", a)),
		"(a)": a, "((a))": a, "(a).b": of(api.ExprProp, "b", a), "(5)": num(5),
		"not a": of(api.ExprNot, "", a), "NOT NOT a": of(api.ExprNot, "", of(api.ExprNot, "", a)), "not a = b": of(api.ExprNot, "", bin(a, "=", b)), "(not a) = b": bin(of(api.ExprNot, "", a), "=", b), "not a and b": bin(of(api.ExprNot, "", a), "AND", b), "a and not b or c": bin(bin(a, "AND", of(api.ExprNot, "", b)), "OR", c), "not a is null": of(api.ExprNot, "", of(api.ExprIsNull, "", a)), "not(a)": of(api.ExprNot, "", a),
		"-a": of(api.ExprNeg, "", a), "- - a": of(api.ExprNeg, "", of(api.ExprNeg, "", a)), "--5": of(api.ExprNeg, "", num(-5)), "-(5)": of(api.ExprNeg, "", num(5)), "-(-5)": of(api.ExprNeg, "", num(-5)), "---5": of(api.ExprNeg, "", of(api.ExprNeg, "", num(-5))), "-a.b": of(api.ExprNeg, "", of(api.ExprProp, "b", a)), "-a*b": bin(of(api.ExprNeg, "", a), "*", b), "-'x'": of(api.ExprNeg, "", str("x")),
		"a is null": of(api.ExprIsNull, "", a), "a IS NOT NULL": of(api.ExprNotNull, "", a), "a is null is not null": of(api.ExprNotNull, "", of(api.ExprIsNull, "", a)), "a + b is null": of(api.ExprIsNull, "", bin(a, "+", b)), "a = b is null": of(api.ExprIsNull, "", bin(a, "=", b)), "a is null = b": bin(of(api.ExprIsNull, "", a), "=", b),
		"a:b": of(api.ExprLabel, "b", a), "a :match": of(api.ExprLabel, "match", a), "a:b:c": of(api.ExprLabel, "c", of(api.ExprLabel, "b", a)), "a + b:c": of(api.ExprLabel, "c", bin(a, "+", b)), "a:b = c": bin(of(api.ExprLabel, "b", a), "=", c),
		"case when a then b end": of(api.ExprCase, "", a, b, null()), "CASE WHEN a THEN b ELSE c END": of(api.ExprCase, "", a, b, c), "case when a then 1 when b then 2 else 3 end": of(api.ExprCase, "", a, num(1), b, num(2), num(3)), "case when a then b end.c": of(api.ExprProp, "c", of(api.ExprCase, "", a, b, null())), "case when case when a then b end then c end": of(api.ExprCase, "", of(api.ExprCase, "", a, b, null()), c, null()),
	} {
		exprIs(t, s, want)
	}
}

func TestOperators(t *testing.T) {
	a, b, c := variable("a"), variable("b"), variable("c")
	levels := [][]string{{"OR"}, {"XOR"}, {"AND"}, {"=", "<>", "<", "<=", ">", ">=", "IN", "STARTS", "ENDS", "CONTAINS"}, {"+", "-"}, {"*", "/", "%"}}
	spelt := func(o string) string {
		if o == "STARTS" || o == "ENDS" {
			o += " WITH"
		}
		return " " + strings.ToLower(o) + " "
	}
	for i, l := range levels {
		for _, x := range l {
			exprIs(t, "a"+spelt(x)+"b", bin(a, x, b))
			exprIs(t, "a"+strings.ToUpper(spelt(x))+"-5", bin(a, x, num(-5)))
			exprIs(t, "-5"+spelt(x)+"- b", bin(num(-5), x, of(api.ExprNeg, "", b)))
			for j, m := range levels {
				for _, y := range m {
					want := bin(bin(a, x, b), y, c)
					if j > i {
						want = bin(a, x, bin(b, y, c))
					}
					exprIs(t, "a"+spelt(x)+"b"+spelt(y)+"c", want)
					exprIs(t, "a"+spelt(x)+"(b"+spelt(y)+"c)", bin(a, x, bin(b, y, c)))
					exprIs(t, "(a"+spelt(x)+"b)"+spelt(y)+"c", bin(bin(a, x, b), y, c))
				}
			}
		}
	}
	exprIs(t, "a-5", bin(a, "-", num(5)))
	exprIs(t, "a- -5", bin(a, "-", num(-5)))
	exprIs(t, "a<-5", bin(a, "<", num(-5)))
	exprIs(t, "1-1", bin(num(1), "-", num(1)))
	exprIs(t, "a-b-c", bin(bin(a, "-", b), "-", c))
	exprIs(t, "a*-b", bin(a, "*", of(api.ExprNeg, "", b)))
}

func TestEachClause(t *testing.T) {
	a, b := variable("a"), variable("b")
	node := func(s string) api.Path { return api.Path{Nodes: []api.NodePat{{Var: s}}} }
	item := func(e api.Expr) []api.Item { return []api.Item{{Expr: e}} }
	queryIs(t, "match (a)", api.Clause{Paths: []api.Path{node("a")}})
	queryIs(t, "OPTIONAL match (a) where b", api.Clause{Optional: true, Paths: []api.Path{node("a")}, HasWhere: true, Where: b})
	queryIs(t, "MATCH (a) WHERE null", api.Clause{Paths: []api.Path{node("a")}, HasWhere: true})
	queryIs(t, "MATCH (a), (b), ()", api.Clause{Paths: []api.Path{node("a"), node("b"), node("")}})
	queryIs(t, "unwind a as b", api.Clause{Kind: api.ClauseUnwind, Expr: a, As: "b"})
	queryIs(t, "UNWIND a + b AS `as`", api.Clause{Kind: api.ClauseUnwind, Expr: bin(a, "+", b), As: "as"})
	queryIs(t, "with a", api.Clause{Kind: api.ClauseWith, Items: item(a)})
	queryIs(t, "WITH DISTINCT a, b as `c d`, 1 order by a, b asc, 1 ascending, 2 desc, 3 descending skip 4 limit 5 where 6",
		api.Clause{Kind: api.ClauseWith, Distinct: true, Items: []api.Item{{Expr: a}, {Expr: b, As: "c d"}, {Expr: num(1)}},
			Order:   []api.SortKey{{Expr: a}, {Expr: b}, {Expr: num(1)}, {Expr: num(2), Desc: true}, {Expr: num(3), Desc: true}},
			HasSkip: true, Skip: num(4), HasLimit: true, Limit: num(5), HasWhere: true, Where: num(6)})
	queryIs(t, "with a where b", api.Clause{Kind: api.ClauseWith, Items: item(a), HasWhere: true, Where: b})
	queryIs(t, "with a limit null", api.Clause{Kind: api.ClauseWith, Items: item(a), HasLimit: true})
	queryIs(t, "with a with b", api.Clause{Kind: api.ClauseWith, Items: item(a)}, api.Clause{Kind: api.ClauseWith, Items: item(b)})
	queryIs(t, "with a starts with b with b", api.Clause{Kind: api.ClauseWith, Items: item(bin(a, "STARTS", b))}, api.Clause{Kind: api.ClauseWith, Items: item(b)})
	queryIs(t, "return a", api.Clause{Kind: api.ClauseReturn, Items: item(a)})
	queryIs(t, "return distinct a as b order by b skip a limit b", api.Clause{Kind: api.ClauseReturn, Distinct: true, Items: []api.Item{{Expr: a, As: "b"}}, Order: []api.SortKey{{Expr: b}}, HasSkip: true, Skip: a, HasLimit: true, Limit: b})
	queryIs(t, "return a return b", api.Clause{Kind: api.ClauseReturn, Items: item(a)}, api.Clause{Kind: api.ClauseReturn, Items: item(b)})
	queryIs(t, "create (a), (b)", api.Clause{Kind: api.ClauseCreate, Paths: []api.Path{node("a"), node("b")}})
	queryIs(t, "set a.b = 1, a:b, a.match = b = 2, `set`:set, a.`b` = null",
		api.Clause{Kind: api.ClauseSet, Sets: []api.SetItem{{Var: "a", Key: "b", Value: num(1)}, {Kind: api.SetLabel, Var: "a", Key: "b"}, {Var: "a", Key: "match", Value: bin(b, "=", num(2))}, {Kind: api.SetLabel, Var: "set", Key: "set"}, {Var: "a", Key: "b"}}})
	queryIs(t, "remove a.b, a:b, a.end, `a b`:`c d`",
		api.Clause{Kind: api.ClauseRemove, Sets: []api.SetItem{{Var: "a", Key: "b"}, {Kind: api.SetLabel, Var: "a", Key: "b"}, {Var: "a", Key: "end"}, {Kind: api.SetLabel, Var: "a b", Key: "c d"}}})
	queryIs(t, "delete a, b", api.Clause{Kind: api.ClauseDelete, Vars: []string{"a", "b"}})
	queryIs(t, "DETACH DELETE `delete`", api.Clause{Kind: api.ClauseDelete, Detach: true, Vars: []string{"delete"}})
	queryIs(t, "/* x */ match/**/(a)//\n\tcreate(b)delete`c`", api.Clause{Paths: []api.Path{node("a")}}, api.Clause{Kind: api.ClauseCreate, Paths: []api.Path{node("b")}}, api.Clause{Kind: api.ClauseDelete, Vars: []string{"c"}})
}

func TestPatterns(t *testing.T) {
	k := maps([]string{"k"}, num(1))
	for s, want := range map[string]api.NodePat{
		"()": {}, "(a)": {Var: "a"}, "(`match`)": {Var: "match"}, "(:A)": {Labels: []string{"A"}}, "(a:A:B:A)": {Var: "a", Labels: []string{"A", "B", "A"}}, "( a : match : `x y` )": {Var: "a", Labels: []string{"match", "x y"}},
		"({})": {Has: true, Props: maps(nil)}, "(a{k:1})": {Var: "a", Has: true, Props: k}, "(:A {k: 1})": {Labels: []string{"A"}, Has: true, Props: k}, "(a:A{k:1})": {Var: "a", Labels: []string{"A"}, Has: true, Props: k},
	} {
		queryIs(t, "MATCH "+s, api.Clause{Paths: []api.Path{{Nodes: []api.NodePat{want}}}})
		queryIs(t, "CREATE "+s, api.Clause{Kind: api.ClauseCreate, Paths: []api.Path{{Nodes: []api.NodePat{want}}}})
	}
	for s, want := range map[string]api.RelPat{
		"--": {}, "-->": {Dir: 1}, "<--": {Dir: -1}, "- - >": {Dir: 1}, "< - -": {Dir: -1}, "-[]-": {}, "-[]->": {Dir: 1}, "<-[]-": {Dir: -1},
		"-[a]-": {Var: "a"}, "-[:T]-": {Types: []string{"T"}}, "-[a:T|U|T]->": {Var: "a", Types: []string{"T", "U", "T"}, Dir: 1}, "<-[`match`:match|`x y`]-": {Var: "match", Types: []string{"match", "x y"}, Dir: -1},
		"-[{}]-": {Has: true, Props: maps(nil)}, "-[a{k:1}]-": {Var: "a", Has: true, Props: k}, "-[:T{k:1}]-": {Types: []string{"T"}, Has: true, Props: k}, "<-[a:T {k: 1}]-": {Var: "a", Types: []string{"T"}, Dir: -1, Has: true, Props: k},
	} {
		queryIs(t, "MATCH (a)"+s+"(b)", api.Clause{Paths: []api.Path{{Nodes: []api.NodePat{{Var: "a"}, {Var: "b"}}, Rels: []api.RelPat{want}}}})
		queryIs(t, "MATCH ()"+s+"()"+s+"()", api.Clause{Paths: []api.Path{{Nodes: make([]api.NodePat, 3), Rels: []api.RelPat{want, want}}}})
	}
}
