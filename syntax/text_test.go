package syntax_test

import (
	"strings"
	"testing"

	"lattice/api"
	"lattice/syntax"
)

// P4.3: how each thing is told. (The other tests hold whole queries against another way of telling them.)

func TestTextsOfExpressions(t *testing.T) {
	for s, want := range map[string]string{
		"NULL": "null", "TRUE": "true", "False": "false", "7": "7", "- 7": "-7", "-0": "0", `"it's"`: `'it\'s'`, "'a\tb'": `'a\tb'`, "'\x7f'": `'\u007f'`, "''": "''",
		"$ x": "$x", "$match": "$`match`", "$`a b`": "$`a b`", "`a`": "a", "`Match`": "`Match`", "`a b`": "`a b`", "````": "````", "Count": "Count", "_1": "_1",
		"a . b": "a.b", "a.match": "a.`match`", "a.b.c": "a.b.c", "(a+b).c": "(a + b).c", "(not a).b": "(NOT a).b", "(-a).b": "(-(a)).b", "(a is null).b": "(a IS NULL).b", "(a is not null).b": "(a IS NOT NULL).b", "(a:B).c": "(a:B).c", "5 .a": "5.a", "-5 .a": "-5.a", "f(a).b": "f(a).b", "[a].b": "[a].b", "{}.b": "{}.b", "$a.b": "$a.b", "'x'.b": "'x'.b", "count(*).b": "count(*).b", "case when a then b end.c": "CASE WHEN a THEN b ELSE null END.c",
		"a [ 0 ]": "a[0]", "(a+b)[c+d]": "(a + b)[c + d]", "a[not b]": "a[NOT b]", "a[-b]": "a[-(b)]", "a[-1]": "a[-1]", "(-a)[0]": "(-(a))[0]", "(a:B)[c:D]": "(a:B)[c:D]", "[1][0]": "[1][0]", "a[b][c]": "a[b][c]",
		"[ ]": "[]", "[ a ]": "[a]", "[a,b,-1]": "[a, b, -1]", "[not a,a+b,-a]": "[NOT a, a + b, -(a)]", "[[],[[]]]": "[[], [[]]]",
		"{ }": "{}", "{a:1}": "{a: 1}", "{b :1,a: b+c}": "{b: 1, a: b + c}", "{match:1,`x y`:{}}": "{`match`: 1, `x y`: {}}", "{a:b:C}": "{a: b:C}",
		"f ( )": "f()", "f(a,b)": "f(a, b)", "f( distinct a,b)": "f(DISTINCT a, b)", "`f g`(not a)": "`f g`(NOT a)", "F(a+b)": "F(a + b)", "COUNT ( * )": "count(*)", "COUNT(a)": "COUNT(a)", "`match`()": "`match`()",
		"not a": "NOT a", "not not a": "NOT (NOT a)", "not a=b": "NOT (a = b)", "not -a": "NOT (-(a))", "not a is null": "NOT (a IS NULL)", "not a:B": "NOT (a:B)", "not a.b": "NOT a.b", "not(a)": "NOT a", "not f(a)": "NOT f(a)", "not [a]": "NOT [a]", "not {}": "NOT {}", "not -5": "NOT -5", "not case when a then b end": "NOT CASE WHEN a THEN b ELSE null END",
		"-a": "-(a)", "- -a": "-(-(a))", "-(5)": "-(5)", "--5": "-(-5)", "-(a+b)": "-(a + b)", "-(not a)": "-(NOT a)", "-f(a)": "-(f(a))", "-[a]": "-([a])", "-(a:B)": "-(a:B)", "-$a": "-($a)",
		"a is null": "a IS NULL", "a Is Not Null": "a IS NOT NULL", "(a+b) is null": "(a + b) IS NULL", "(not a)is null": "(NOT a) IS NULL", "a is null is null": "(a IS NULL) IS NULL", "a:B is not null": "(a:B) IS NOT NULL", "-a is null": "(-(a)) IS NULL", "-1 is null": "-1 IS NULL", "null is null": "null IS NULL",
		"a : B": "a:B", "a:match": "a:`match`", "a:B:C": "(a:B):C", "(a+b):C": "(a + b):C", "(not a):B": "(NOT a):B", "a.b:C": "a.b:C", "f(a):B": "f(a):B", "-a:B": "(-(a)):B",
		"a or b": "a OR b", "a oR b xor c AND d": "a OR (b XOR (c AND d))", "a=b": "a = b", "a<>b": "a <> b", "a<b": "a < b", "a<=b": "a <= b", "a>b": "a > b", "a>=b": "a >= b", "a in b": "a IN b", "a starts with b": "a STARTS WITH b", "a ends with b": "a ENDS WITH b", "a contains b": "a CONTAINS b", "a+b": "a + b", "a-b": "a - b", "a*b": "a * b", "a/b": "a / b", "a%b": "a % b",
		"a+b+c": "(a + b) + c", "a+(b+c)": "a + (b + c)", "a+b*c": "a + (b * c)", "a*-b": "a * (-(b))", "a - -5": "a - -5", "-5-a": "-5 - a", "a-(-(5))": "a - (-(5))", "a=(not b)": "a = (NOT b)", "a=b is null": "(a = b) IS NULL", "a=(b is null)": "a = (b IS NULL)", "a=(b:C)": "a = (b:C)", "a:B=c": "(a:B) = c", "a.b+f(c)+[d]+{}+$e": "(((a.b + f(c)) + [d]) + {}) + $e", "a+case when b then c end": "a + CASE WHEN b THEN c ELSE null END", "a<-1": "a < -1",
		"case when a or b then not c else -d end": "CASE WHEN a OR b THEN NOT c ELSE -(d) END", "case when a then b when c then d end": "CASE WHEN a THEN b WHEN c THEN d ELSE null END", "case when a then b else null end": "CASE WHEN a THEN b ELSE null END", "case when(a)then(b)else(c)end": "CASE WHEN a THEN b ELSE c END",
	} {
		e, at, x := syntax.ParseExpr(s)
		if x != api.OK || at != 0 || syntax.Text(e) != want {
			t.Errorf("%s: %s, not %s (%d %v)", s, syntax.Text(e), want, at, x)
		}
		if again, _, _ := syntax.ParseExpr(want); !same(again, e) {
			t.Error(s, want)
		}
	}
}

func TestTextsOfQueries(t *testing.T) {
	for s, want := range map[string]string{
		"match(a)": "MATCH (a)", "match ( )": "MATCH ()", "match(a),(b)": "MATCH (a), (b)", "optional match(a)where b": "OPTIONAL MATCH (a) WHERE b", "match (a) where a=b or c": "MATCH (a) WHERE (a = b) OR c",
		"match(:A)": "MATCH (:A)", "match(a :A :B)": "MATCH (a:A:B)", "match({})": "MATCH ({})", "match(a{k:1})": "MATCH (a {k: 1})", "match(:A{k:1,l:2})": "MATCH (:A {k: 1, l: 2})", "match(a:A{})": "MATCH (a:A {})", "match(`match`:match)": "MATCH (`match`:`match`)", "match (`a b`:`c d`)": "MATCH (`a b`:`c d`)",
		"match (a) - - (b)": "MATCH (a)--(b)", "match (a) - - > (b)": "MATCH (a)-->(b)", "match (a) < - - (b)": "MATCH (a)<--(b)", "match (a)-[]-(b)": "MATCH (a)--(b)", "match (a)<-[ ]-(b)": "MATCH (a)<--(b)", "match (a)-[]->(b)": "MATCH (a)-->(b)",
		"match (a)-[ r ]-(b)": "MATCH (a)-[r]-(b)", "match (a)-[ : T ]->(b)": "MATCH (a)-[:T]->(b)", "match (a)<-[r :T | U]-(b)": "MATCH (a)<-[r:T|U]-(b)", "match (a)-[{}]-(b)": "MATCH (a)-[{}]-(b)", "match (a)-[r{k:1}]->(b)": "MATCH (a)-[r {k: 1}]->(b)", "match (a)-[:T{k:1,l:[1,2]}]-(b)": "MATCH (a)-[:T {k: 1, l: [1, 2]}]-(b)", "match (a)<-[r:T|match{}]-(b)": "MATCH (a)<-[r:T|`match` {}]-(b)",
		"match (a)--(b)-->(c)<-[:T]-(d),(e)": "MATCH (a)--(b)-->(c)<-[:T]-(d), (e)",
		"unwind[1,2]as x":                    "UNWIND [1, 2] AS x", "unwind a+b as `as`": "UNWIND a + b AS `as`",
		"with a": "WITH a", "with distinct a as b,c": "WITH DISTINCT a AS b, c", "with a order by b": "WITH a ORDER BY b", "with a order by b asc,c desc,d ascending,e descending": "WITH a ORDER BY b, c DESC, d, e DESC", "with a skip 1": "WITH a SKIP 1", "with a limit 2": "WITH a LIMIT 2", "with a where b": "WITH a WHERE b", "with distinct a order by b desc skip 1 limit 2 where c": "WITH DISTINCT a ORDER BY b DESC SKIP 1 LIMIT 2 WHERE c", "with null limit null where null": "WITH null LIMIT null WHERE null",
		"return a": "RETURN a", "return distinct a,not b as c": "RETURN DISTINCT a, NOT b AS c", "return a:B as c order by not b desc skip 1+1 limit -1": "RETURN a:B AS c ORDER BY NOT b DESC SKIP 1 + 1 LIMIT -1", "return count(*)": "RETURN count(*)", "return -a,(b)": "RETURN -(a), b",
		"create(a:A{k:1})-[:T]->(b)": "CREATE (a:A {k: 1})-[:T]->(b)", "create(a),(b)": "CREATE (a), (b)",
		"set a.k=1": "SET a.k = 1", "set a:L,a.match=b=c": "SET a:L, a.`match` = b = c", "set `a b`:`c d`": "SET `a b`:`c d`", "set a.k=not b": "SET a.k = NOT b",
		"remove a.k,a:L": "REMOVE a.k, a:L", "delete a,`match`": "DELETE a, `match`", "detach delete a": "DETACH DELETE a",
		"match(a)with a return a": "MATCH (a) WITH a RETURN a", "return 1 return 2 match()": "RETURN 1 RETURN 2 MATCH ()",
	} {
		q, at, e := syntax.Parse(s)
		printed, x := syntax.Print(q)
		if e != api.OK || at != 0 || x != api.OK || printed != want {
			t.Errorf("%s: %s, not %s (%d %v %v)", s, printed, want, at, e, x)
		}
		if strings.Contains(want, "  ") {
			t.Error(want)
		}
		if again, _, _ := syntax.Parse(want); !same(again, q) {
			t.Error(s, want)
		}
	}
}
