package syntax_test

import (
	"strings"
	"testing"

	"lattice/api"
	"lattice/syntax"
)

// P4.1: texts that are refused at the place of a ^.

func TestQueriesThatMayNotStand(t *testing.T) {
	for _, l := range [][]string{
		{"^", "  ^", "// x^", "^a", "^1", "^'x'", "^(", "^on", "^`match` (a)", "^where a", "^count(*)", "^order by a", "^null", "^as", "^distinct", "^by"},
		{"match^", "match ^a", "match ^where", "match (a)^)", "match (a) ^a", "match (a),^", "match (a), ^a", "match (a) ^(b)", "match (a) where^", "match (a) where ^match (b)", "match (a) where b ^where c", "match (a) ^order by b", "match (a) ^as b", "optional^", "optional ^create (a)", "optional ^optional match (a)", "match ^distinct (a)"},
		{"match (^match)", "match (a ^b)", "match (a^.b)", "match (a:^)", "match (a:^'x')", "match (a:b^|c)", "match (a: b {}^:c)", "match (a {}^{})", "match (^1)", "match (^$a)", "match (^(", "match (^[", "match (a^", "match (a {^", "match (a {k^", "match (a {k: 1^", "match (a {k: 1}^"},
		{"match (a)-^", "match (a)-^(b)", "match (a)--^", "match (a)--^-(b)", "match (a)-^>(b)", "match (a)<^(b)", "match (a)<^<--(b)", "match (a)<-^(b)", "match (a)-->^>(b)", "match (a)^<>(b)", "match (a)^>(b)", "match (a)-^<-(b)", "match (a)^=(b)", "match (a)^<=(b)", "match (a)^[b]", "match (a)--^[b]-(b)", "match (a)--^,(b)", "match (a)--(b)--^", "match (a)--(b)-[^", "match (a)--(b)--(^"},
		{"match (a)-[^match]-(b)", "match (a)-[b:^]-(b)", "match (a)-[b ^c]-(b)", "match (a)-[:b^:c]-(b)", "match (a)-[:b|^:c]-(b)", "match (a)-[:b|^]-(b)", "match (a)-[^|b]-(b)", "match (a)-[b]^(b)", "match (a)-[b^(", "match (a)-[:^", "match (a)-[{^", "match (a)-[b]-^[c]-(b)", "match (a)-[^*]-(b)", "match (a)-[:b {}^{}]-(b)"},
		{"match (a)<--^>(b)", "match (a)<-[b]-^>(b)", "match (a)<-[]-^>(b)", "create (a)-->(b)<-[:c]-^>(d)"},
		{"unwind^", "unwind a^", "unwind a ^b", "unwind a as^", "unwind a as ^match", "unwind a as ^1", "unwind a as b^,", "unwind a as b ^where c", "unwind ^as b"},
		{"with^", "with ^*", "with distinct^", "with distinct ^distinct a", "with a,^", "with a ^b", "with a as ^as", "with a as b ^as c", "with a order ^a", "with a order by^", "with a order by a asc ^asc", "with a order by a asc ^desc", "with a order by a,^", "with a order by b ^order by c", "with a ^desc", "with a ^by b"},
		{"with a skip^", "with a skip 1 ^skip 2", "with a limit 1 ^skip 2", "with a skip 1 ^order by b", "with a where b ^limit 1", "with a where b ^where c", "with ^where a", "with a limit ^where b", "with a limit^"},
		{"create^", "create (a) ^where b", "create ^a", "create (a),^", "create ^distinct (a)"},
		{"set^", "set ^match.a = 1", "set a^", "set a ^= 1", "set a.^", "set a.^1 = 2", "set a.b^", "set a.b^.c = 1", "set a.b =^", "set a.b ^1", "set a:^", "set a:b ^= 1", "set a:b^:c", "set a:b,^", "set a^[0] = 1", "set ^(a).b = 1", "set ^1.b = 1", "set a.b ^<> 1", "set a.b = 1 ^c.d = 2"},
		{"remove^", "remove a^", "remove a.^", "remove a.b ^= 1", "remove a:^", "remove a:b^:c", "remove ^match:b", "remove a.b^.c", "remove a^,b"},
		{"delete^", "delete ^match", "delete a^.b", "delete a,^", "delete ^1", "delete ^detach a", "detach^", "detach ^detach delete a", "detach ^match (a)", "delete ^(a)", "delete ^$a", "delete a ^b"},
		{"return^", "return a,^", "return a ^where b", "return distinct^", "return ^*", "return a as^", "return a as ^match", "return a as b,^", "return a ^b", "return ^return", "return a limit 1 ^where b", "return a ^on"},
	} {
		for _, s := range l {
			wrongAt(t, s, api.ErrSyntax)
		}
	}
}

func TestExpressionsThatMayNotStand(t *testing.T) {
	for _, l := range [][]string{
		{"^", "^)", "^]", "^}", "^,", "^.", "^:", "^|", "^=", "^<>", "^<", "^<=", "^>", "^>=", "^+", "^*", "^/", "^%", "^+a"},
		{"^and", "^or", "^xor", "^in", "^is null", "^starts with a", "^distinct a", "^end", "^when", "^match", "^as", "^on", "^asc", "^with", "^contains a"},
		{"(^", "(^)", "(a^", "(a^,b)", "(a^]", "[^", "[a^", "[a,^", "[a,^]", "[^,a]", "[a^)", "[a ^b]", "[^distinct a]", "(a ^b"},
		{"{^", "{^1: a}", "{^'a': a}", "{a^}", "{a^, b: 1}", "{a:^}", "{a: 1^", "{a: 1,^}", "{a: 1 ^b: 2}", "{^(a): 1}", "{^$a: 1}", "{^{", "{a: 1^]"},
		{"{a: 1, ^a: 2}", "{a: 1, b: 2, ^`a`: 3}", "{`a`: 1, ^a: 2}", "{match: 1, ^match: 2}", "{a: {a: 1, ^a: 1}}", "{a: 1, ^a", "{a: 1, ^a, b", "{a: {b: 1}, ^a: 1}"},
		{"f(^", "f(a^", "f(a,^)", "f(^,a)", "f(distinct^)", "f(distinct^", "f(distinct ^distinct a)", "f(a, ^distinct b)", "f(^*)", "f(a)^(b)", "f(a ^b)", "f(a^]"},
		{"`count`(^*)", "count(*^", "count(*^,a)", "count(* ^a)", "count(distinct ^*)", "count(*^*)", "count(a, ^*)", "counts(^*)", "(count)^(*)"},
		{"f.g^(a)", "(f)^(a)", "1^(a)", "'f'^(a)", "$f^(a)", "^match(a)", "^end(a)", "null^(a)", "[f]^(a)", "f:g^(a)"},
		{"$^", "$^1", "$^'a'", "$^$a", "$a^$b", "$^(a)", "a.^", "a.^1", "a.^'b'", "a.^[0]", "a.^*", "a ^1", "a ^b", "a ^'b'", "1 ^2", "'a' ^'b'", "a[^]", "a[0^", "a[0^,1]", "a[^", "a[0^)", "1.^5", "a^{b: 1}", "a[0].^", "a:b^.c"},
		{"not^", "not^)", "not ^and", "not ^distinct", "-^", "-^)", "- -^", "- - ^)", "-^+a", "a -^", "a + ^+ b", "a ^not b", "a ^not", "a ^not in b", "- ^not a", "a = ^not b", "a + ^not b"},
		{"a starts^", "a starts ^b", "a ends ^'b'", "a starts with^", "a contains ^with b", "a in^", "a in ^in", "a is ^b", "a is not ^b", "a is^", "a is not^", "a is ^is null", "a :^", "a : ^'b'", "a = ^= b", "a = b ^c", "a:b ^c", "a is null ^a"},
		{"case^", "case ^a", "case ^a when b then c end", "case when^", "case when a^", "case when a ^else", "case when a then^", "case when a then b^", "case when a then b ^then", "case when a then b else^", "case when a then b else c^"},
		{"case when a then b else c ^when d then e end", "case when a then b else c ^else d end", "case ^else a end", "case ^end", "case when a then b when^", "case when a then b when c ^end", "case when a then b ^)"},
		{"^9223372036854775808", "a - ^9223372036854775808", "(^9223372036854775808)", "-(^9223372036854775808)", "a[^9223372036854775808]", "1 + ^9223372036854775808", "$^9223372036854775808", "a ^9223372036854775808", "5 -^9223372036854775808", "{a: ^9223372036854775808}", "[-9223372036854775808, ^9223372036854775808]"},
	} {
		for _, s := range l {
			exprWrongAt(t, s, api.ErrSyntax)
		}
	}
}

// What may stand behind an expression in a query may not behind one alone.
func TestBehindAnExpression(t *testing.T) {
	for _, s := range []string{"a ^as b", "a ^desc", "a ^match (b)", "a ^limit 1", "a ^where b", "a^, b", "a ^order by b", "a ^return a", "a ^with b"} {
		e, at, x := syntax.ParseExpr(strings.Replace(s, "^", "", 1))
		if at != strings.Index(s, "^") || x != api.ErrSyntax || !same(e, api.Expr{}) {
			t.Error(s, at, x)
		}
	}
}

func TestWordsThatCannotBeRead(t *testing.T) {
	for _, s := range []string{"^#", "return ^#", "return a ^#", "return a^;", "return a + ^'b", "match (a ^\x00)", "match ^/* a", "match (a) ^;", "return ^01", "return ^9223372036854775809", "return -^9223372036854775809", "return ^``", "return - ^#", "return a.^" + strings.Repeat("x", api.MaxName+1), "return count(^#", "return {a: 1, ^#", "return not ^\xff", "return case ^'\\q'"} {
		wrongAt(t, s, api.ErrWord)
	}
	for _, s := range []string{"^a #", "return ^) #", "match ^a 'b", "return {a: 1, ^a #: 2}", "return ^9223372036854775808 #", "return a ^b /*", "match (a)<--^>#", "return a as ^match #"} {
		wrongAt(t, s, api.ErrSyntax)
	}
	for _, s := range []string{"a ^#", "^#", "a + ^#", "(a ^#", "-^#", "f^#"} {
		exprWrongAt(t, s, api.ErrWord)
	}
}

func TestLongTexts(t *testing.T) {
	padded := func(s string) string { return s + strings.Repeat(" ", api.MaxText-len(s)) }
	if q, at, e := syntax.Parse(padded("RETURN 1")); len(q.Clauses) != 1 || at != 0 || e != api.OK {
		t.Error(at, e)
	}
	if _, at, e := syntax.Parse(padded("")); at != api.MaxText || e != api.ErrSyntax {
		t.Error(at, e)
	}
	if _, at, e := syntax.ParseExpr(padded("a")); at != 0 || e != api.OK {
		t.Error(at, e)
	}
	if e, _, x := syntax.ParseExpr("'" + strings.Repeat("a", api.MaxText-2) + "'"); x != api.OK || len(e.Value.Text) != api.MaxText-2 {
		t.Error(x)
	}
	for _, s := range []string{padded("RETURN 1") + " ", padded("a") + " ", padded("#") + " ", padded(")") + ")", strings.Repeat("(", 1<<22)} {
		if q, at, e := syntax.Parse(s); len(q.Clauses) != 0 || at != 0 || e != api.ErrLong {
			t.Error(at, e)
		}
		if e, at, x := syntax.ParseExpr(s); !same(e, api.Expr{}) || at != 0 || x != api.ErrLong {
			t.Error(at, x)
		}
	}
}
