package expr_test

import "testing"

// P7.1: what expressions of each kind are worth.

func TestExamples(t *testing.T) {
	worth(t,
		row{"1 + 2 * 3", "7"}, row{"[1, 2][-1]", "2"}, row{"{a: 1}.a", "1"}, row{"null + 1", "null"},
		row{"1 = null", "null"}, row{"1 IN [2, null]", "null"}, row{"null AND false", "false"}, row{"1 < 'a'", "null"},
		row{"1 + true", "!type"}, row{"9223372036854775807 + 1", "!wide"}, row{"1 / 0", "!zero"}, row{"nowhere", "!var"}, row{"$nowhere", "!param"},
		row{"CASE WHEN false THEN 1 ELSE 2 END", "2"}, row{"range(1, 5, 2)", "[1, 3, 5]"}, row{"coalesce(null, 3)", "3"},
	)
}

func TestLiterals(t *testing.T) {
	worth(t, row{"null", "null"}, row{"true", "true"}, row{"false", "false"}, row{"0", "0"}, row{"-9223372036854775808", "-9223372036854775808"}, row{"9223372036854775807", "9223372036854775807"}, row{"''", "''"}, row{"'it\\'s'", `'it\'s'`}, row{"(((5)))", "5"})
}

func TestVariablesAndParameters(t *testing.T) {
	worth(t,
		row{"n", "<n0>"}, row{"lost", "<n3>"}, row{"r", "<r0>"}, row{"lostr", "<r2>"}, row{"x", "null"}, row{"y", "true"}, row{"i", "7"}, row{"t", "'abc'"}, row{"l", "[1, null, 'a']"}, row{"o", "{`b c`: [2], k: 5, nil: null}"}, row{"none", "[]"}, row{"bare", "{}"},
		row{"twice", "1"}, row{"$twice", "1"}, row{"twice + $twice", "2"},
		row{"$n", "<n0>"}, row{"$x", "null"}, row{"$l", "[1, null, 'a']"}, row{"$`$ only`", "4"}, row{"`$ only`", "!var"}, row{"$nowhere", "!param"}, row{"N", "!var"}, row{"$N", "!param"},
	)
}

func TestProperties(t *testing.T) {
	worth(t,
		row{"x.k", "null"}, row{"null.k", "null"},
		row{"n.k", "3"}, row{"n.`b c`", "'x'"}, row{"n.l", "[1, 2]"}, row{"n.no", "false"}, row{"n.K", "null"}, row{"n.a", "null"}, row{"n.z", "null"}, row{"m.k", "null"}, row{"lost.k", "null"}, row{"never.k", "null"},
		row{"r.k", "'w'"}, row{"u.k", "null"}, row{"r.l", "null"}, row{"lostr.k", "null"}, row{"neverr.k", "null"},
		row{"o.k", "5"}, row{"o.`b c`", "[2]"}, row{"o.nil", "null"}, row{"o.z", "null"}, row{"bare.k", "null"}, row{"{b: 2, a: {c: 3}}.a.c", "3"}, row{"$o.k", "5"}, row{"[n][0].k", "3"},
		row{"y.k", "!type"}, row{"i.k", "!type"}, row{"t.k", "!type"}, row{"l.k", "!type"}, row{"n.k.k", "!type"}, row{"[n].k", "!type"},
	)
}

func TestIndexes(t *testing.T) {
	worth(t,
		row{"l[0]", "1"}, row{"l[1]", "null"}, row{"l[2]", "'a'"}, row{"l[3]", "null"}, row{"l[-1]", "'a'"}, row{"l[-2]", "null"}, row{"l[-3]", "1"}, row{"l[-4]", "null"}, row{"none[0]", "null"}, row{"none[-1]", "null"},
		row{"l[9223372036854775807]", "null"}, row{"l[-9223372036854775808]", "null"}, row{"[[1, 2], [3]][0][1]", "2"},
		row{"o['k']", "5"}, row{"o['b c']", "[2]"}, row{"o['nil']", "null"}, row{"o['']", "null"}, row{"o['K']", "null"}, row{"bare['k']", "null"}, row{"o['b ' + 'c'][0]", "2"},
		row{"null[0]", "null"}, row{"null['k']", "null"}, row{"null[null]", "null"}, row{"null[true]", "null"}, row{"null[n]", "null"}, row{"l[null]", "null"}, row{"o[null]", "null"}, row{"1[null]", "null"}, row{"n[null]", "null"}, row{"t[x]", "null"},
		row{"l['k']", "!type"}, row{"l[true]", "!type"}, row{"l[l]", "!type"}, row{"o[0]", "!type"}, row{"o[o]", "!type"}, row{"t[0]", "!type"}, row{"i[0]", "!type"}, row{"n['k']", "!type"}, row{"r['k']", "!type"}, row{"n[0]", "!type"}, row{"y[y]", "!type"},
	)
}

func TestListsAndMaps(t *testing.T) {
	worth(t,
		row{"[]", "[]"}, row{"[1, null, 'a', true, [2], {a: 1}, n, r]", "[1, null, 'a', true, [2], {a: 1}, <n0>, <r0>]"}, row{"[i + 1, [n.k]]", "[8, [3]]"}, row{"[l, l]", "[[1, null, 'a'], [1, null, 'a']]"},
		row{"{}", "{}"}, row{"{b: 1, a: 2}", "{a: 2, b: 1}"}, row{"{`z z`: null, Z: n, `é`: o, a: 1 + 1}", "{Z: <n0>, a: 2, `z z`: null, `é`: {`b c`: [2], k: 5, nil: null}}"}, row{"{a: null}", "{a: null}"},
	)
}

func TestTruths(t *testing.T) {
	worth(t,
		row{"NOT true", "false"}, row{"NOT false", "true"}, row{"NOT null", "null"}, row{"NOT x", "null"}, row{"NOT NOT y", "true"},
		row{"true AND true", "true"}, row{"true AND false", "false"}, row{"false AND true", "false"}, row{"false AND false", "false"}, row{"null AND true", "null"}, row{"true AND null", "null"}, row{"null AND null", "null"}, row{"null AND false", "false"}, row{"false AND null", "false"},
		row{"true OR true", "true"}, row{"true OR false", "true"}, row{"false OR true", "true"}, row{"false OR false", "false"}, row{"null OR true", "true"}, row{"true OR null", "true"}, row{"null OR null", "null"}, row{"null OR false", "null"}, row{"false OR null", "null"},
		row{"true XOR true", "false"}, row{"true XOR false", "true"}, row{"false XOR true", "true"}, row{"false XOR false", "false"}, row{"null XOR true", "null"}, row{"true XOR null", "null"}, row{"null XOR null", "null"}, row{"null XOR false", "null"}, row{"false XOR null", "null"},
	)
	for _, other := range []string{"1", "0", "'true'", "''", "[]", "[true]", "{}", "n", "r"} {
		worth(t, row{"NOT " + other, "!type"})
		for _, o := range []string{"AND", "OR", "XOR"} {
			worth(t, row{"null " + o + " " + other, "!type"}, row{other + " " + o + " null", "!type"}, row{other + " " + o + " true", "!type"}, row{other + " " + o + " false", "!type"}, row{other + " " + o + " " + other, "!type"})
		}
		worth(t, row{"true AND " + other, "!type"}, row{"false OR " + other, "!type"}, row{"true XOR " + other, "!type"}, row{"false XOR " + other, "!type"})
	}
}

func TestComparisons(t *testing.T) {
	for _, x := range []struct{ a, b, less string }{ // of values that have a less: <, = or >
		{"1", "2", "<"}, {"2", "1", ">"}, {"2", "2", "="}, {"-1", "0", "<"}, {"-9223372036854775808", "9223372036854775807", "<"}, {"'a'", "'b'", "<"}, {"'a'", "'ab'", "<"}, {"'Z'", "'a'", "<"}, {"''", "''", "="}, {"'é'", "'z'", ">"}, {"false", "true", "<"}, {"true", "true", "="}, {"true", "false", ">"},
	} {
		truths := map[string]map[string]string{
			"<": {"=": "false", "<>": "true", "<": "true", "<=": "true", ">": "false", ">=": "false"},
			"=": {"=": "true", "<>": "false", "<": "false", "<=": "true", ">": "false", ">=": "true"},
			">": {"=": "false", "<>": "true", "<": "false", "<=": "false", ">": "true", ">=": "true"},
		}
		for o, want := range truths[x.less] {
			worth(t, row{x.a + " " + o + " " + x.b, want})
		}
	}
	for _, x := range []struct{ a, b, equal, unlike string }{ // of values that have none
		{"null", "null", "null", "null"}, {"null", "1", "null", "null"}, {"'a'", "null", "null", "null"}, {"1", "'1'", "false", "true"}, {"1", "true", "false", "true"}, {"'true'", "true", "false", "true"},
		{"[1]", "[1]", "true", "false"}, {"[1]", "[2]", "false", "true"}, {"[1, null]", "[1, 2]", "null", "null"}, {"[1, null]", "[2, null]", "false", "true"}, {"[1]", "[1, null]", "false", "true"}, {"[]", "[]", "true", "false"}, {"[]", "null", "null", "null"},
		{"{a: null}", "{a: 1}", "null", "null"}, {"{a: 1}", "{b: 1}", "false", "true"}, {"{b: 1, a: 2}", "{a: 2, b: 1}", "true", "false"},
		{"n", "n", "true", "false"}, {"n", "m", "false", "true"}, {"n", "r", "false", "true"}, {"r", "r", "true", "false"}, {"r", "u", "false", "true"}, {"lost", "lost", "true", "false"}, {"lost", "lostr", "false", "true"}, {"n", "0", "false", "true"},
	} {
		worth(t, row{x.a + " = " + x.b, x.equal}, row{x.b + " = " + x.a, x.equal}, row{x.a + " <> " + x.b, x.unlike}, row{x.b + " <> " + x.a, x.unlike})
		for _, o := range []string{"<", "<=", ">", ">="} {
			worth(t, row{x.a + " " + o + " " + x.b, "null"}, row{x.b + " " + o + " " + x.a, "null"})
		}
	}
}

func TestIn(t *testing.T) {
	worth(t,
		row{"1 IN [1, null]", "true"}, row{"1 IN [null, 1]", "true"}, row{"2 IN [1, null]", "null"}, row{"2 IN [1]", "false"}, row{"2 IN []", "false"}, row{"null IN []", "false"}, row{"null IN [1]", "null"}, row{"null IN [null]", "null"}, row{"[1] IN [[1]]", "true"}, row{"[1, null] IN [[1, 2], [3]]", "null"}, row{"[1, null] IN [[2, 2], 3]", "false"}, row{"n IN [m, n]", "true"}, row{"n IN [m, r]", "false"}, row{"'1' IN [1]", "false"}, row{"3 IN n.l", "false"}, row{"2 IN n.l", "true"},
		row{"1 IN null", "null"}, row{"null IN null", "null"}, row{"1 IN x", "null"}, row{"[] IN null", "null"},
		row{"1 IN 1", "!type"}, row{"'a' IN 'abc'", "!type"}, row{"'k' IN {k: 1}", "!type"}, row{"null IN true", "!type"}, row{"null IN ''", "!type"}, row{"1 IN n", "!type"}, row{"1 IN r", "!type"},
	)
}

func TestTextsWithin(t *testing.T) {
	worth(t,
		row{"'abc' STARTS WITH 'ab'", "true"}, row{"'abc' STARTS WITH 'bc'", "false"}, row{"'abc' STARTS WITH ''", "true"}, row{"'abc' STARTS WITH 'abcd'", "false"}, row{"'abc' STARTS WITH 'AB'", "false"},
		row{"'abc' ENDS WITH 'bc'", "true"}, row{"'abc' ENDS WITH 'ab'", "false"}, row{"'abc' ENDS WITH ''", "true"}, row{"'' ENDS WITH ''", "true"}, row{"'abc' ENDS WITH 'xabc'", "false"},
		row{"'abc' CONTAINS 'b'", "true"}, row{"'abc' CONTAINS 'ac'", "false"}, row{"'abc' CONTAINS ''", "true"}, row{"'' CONTAINS 'a'", "false"}, row{"'abc' CONTAINS 'abc'", "true"}, row{"'xéy' CONTAINS 'é'", "true"}, row{"'e' CONTAINS 'é'", "false"},
	)
	for _, o := range []string{"STARTS WITH", "ENDS WITH", "CONTAINS"} {
		for _, other := range []string{"null", "1", "true", "['a']", "{a: 1}", "n", "r", "[]"} {
			worth(t, row{"'a' " + o + " " + other, "null"}, row{other + " " + o + " 'a'", "null"}, row{other + " " + o + " " + other, "null"})
		}
	}
}

func TestSums(t *testing.T) {
	worth(t,
		row{"1 + 2", "3"}, row{"-1 + 1", "0"}, row{"9223372036854775806 + 1", "9223372036854775807"}, row{"9223372036854775807 + 1", "!wide"}, row{"-9223372036854775808 + -1", "!wide"},
		row{"'a' + 'b'", "'ab'"}, row{"'' + ''", "''"}, row{"t + t", "'abcabc'"}, row{"[1] + [2, null]", "[1, 2, null]"}, row{"[] + []", "[]"}, row{"l + l", "[1, null, 'a', 1, null, 'a']"}, row{"[1] + [[2]]", "[1, [2]]"},
		row{"null + null", "null"}, row{"1 + null", "null"}, row{"null + 'a'", "null"}, row{"[1] + null", "null"}, row{"null + true", "null"}, row{"{} + null", "null"}, row{"null + n", "null"},
		row{"1 + 'a'", "!type"}, row{"'a' + 1", "!type"}, row{"1 + true", "!type"}, row{"true + true", "!type"}, row{"[1] + 1", "!type"}, row{"1 + [1]", "!type"}, row{"'a' + ['a']", "!type"}, row{"{} + {}", "!type"}, row{"n + n", "!type"}, row{"r + r", "!type"},
	)
}

func TestNumbers(t *testing.T) {
	worth(t,
		row{"5 - 7", "-2"}, row{"-9223372036854775808 - 1", "!wide"}, row{"-9223372036854775807 - 1", "-9223372036854775808"},
		row{"3 * -4", "-12"}, row{"4294967296 * 2147483648", "!wide"}, row{"-4294967296 * 2147483648", "-9223372036854775808"}, row{"0 * -9223372036854775808", "0"},
		row{"7 / 2", "3"}, row{"-7 / 2", "-3"}, row{"7 / -2", "-3"}, row{"1 / 0", "!zero"}, row{"0 / 0", "!zero"}, row{"-9223372036854775808 / -1", "!wide"},
		row{"7 % 2", "1"}, row{"-7 % 2", "-1"}, row{"7 % -2", "1"}, row{"1 % 0", "!zero"}, row{"-9223372036854775808 % -1", "0"},
		row{"-i", "-7"}, row{"-(-5)", "5"}, row{"-(-9223372036854775808)", "!wide"}, row{"-x", "null"}, row{"-null", "null"},
	)
	others := []string{"'a'", "true", "[1]", "{a: 1}", "n", "r"}
	for _, o := range others {
		worth(t, row{"-(" + o + ")", "!type"})
	}
	for _, o := range []string{"-", "*", "/", "%"} {
		worth(t, row{"null " + o + " 1", "null"}, row{"1 " + o + " null", "null"}, row{"null " + o + " null", "null"}, row{"null " + o + " 0", "null"})
		for _, x := range others {
			worth(t, row{"1 " + o + " " + x, "!type"}, row{x + " " + o + " 1", "!type"}, row{x + " " + o + " 0", "!type"}, row{x + " " + o + " " + x, "!type"}, row{"null " + o + " " + x, "null"}, row{x + " " + o + " null", "null"})
		}
	}
}

func TestNullsAndLabels(t *testing.T) {
	worth(t,
		row{"null IS NULL", "true"}, row{"x IS NULL", "true"}, row{"n.z IS NULL", "true"}, row{"null IS NOT NULL", "false"}, row{"lost.k IS NOT NULL", "false"},
		row{"n:A", "true"}, row{"n:`B c`", "true"}, row{"n:C", "false"}, row{"n:a", "false"}, row{"m:A", "false"}, row{"c:C", "true"}, row{"lost:A", "false"}, row{"never:A", "false"}, row{"x:A", "null"}, row{"null:A", "null"},
		row{"r:T", "!type"}, row{"lostr:T", "!type"}, row{"i:A", "!type"}, row{"t:A", "!type"}, row{"y:A", "!type"}, row{"l:A", "!type"}, row{"o:A", "!type"}, row{"(n:A):A", "!type"},
	)
	for _, s := range []string{"0", "''", "false", "[]", "[null]", "{}", "n", "lost", "r", "lostr"} {
		worth(t, row{s + " IS NULL", "false"}, row{s + " IS NOT NULL", "true"})
	}
}

func TestCase(t *testing.T) {
	worth(t,
		row{"CASE WHEN true THEN 1 ELSE 2 END", "1"}, row{"CASE WHEN null THEN 1 ELSE 2 END", "2"}, row{"CASE WHEN false THEN 1 END", "null"}, row{"CASE WHEN false THEN 1 WHEN true THEN 2 ELSE 3 END", "2"}, row{"CASE WHEN true THEN 1 WHEN true THEN 2 ELSE 3 END", "1"}, row{"CASE WHEN null THEN 1 WHEN false THEN 2 WHEN i = 7 THEN 'a' END", "'a'"}, row{"CASE WHEN true THEN null ELSE 2 END", "null"}, row{"CASE WHEN false THEN 1 WHEN null THEN 2 ELSE [3] END", "[3]"}, row{"CASE WHEN n:A THEN n ELSE r END", "<n0>"},
		row{"CASE WHEN 1 THEN 1 ELSE 2 END", "!type"}, row{"CASE WHEN 'true' THEN 1 END", "!type"}, row{"CASE WHEN [] THEN 1 END", "!type"}, row{"CASE WHEN {} THEN 1 END", "!type"}, row{"CASE WHEN n THEN 1 END", "!type"}, row{"CASE WHEN r THEN 1 END", "!type"}, row{"CASE WHEN false THEN 1 WHEN 0 THEN 2 ELSE 3 END", "!type"},
	)
}

func TestFunctions(t *testing.T) {
	worth(t,
		row{"coalesce(1)", "1"}, row{"coalesce(null)", "null"}, row{"coalesce(null, x, n.z)", "null"}, row{"coalesce(x, false, 1)", "false"}, row{"coalesce([], 1)", "[]"}, row{"coalesce(lost)", "<n3>"},
		row{"id(n)", "0"}, row{"id(c)", "2"}, row{"id(u)", "1"}, row{"id(lost)", "3"}, row{"id(never)", "1099511627776"}, row{"id(lostr)", "2"},
		row{"labels(n)", "['A', 'B c']"}, row{"labels(m)", "[]"}, row{"labels(lost)", "[]"}, row{"labels(never)", "[]"},
		row{"type(r)", "'T'"}, row{"type(u)", "'U'"}, row{"type(lostr)", "null"}, row{"type(neverr)", "null"},
		row{"keys(n)", "['b c', 'k', 'l', 'no']"}, row{"keys(m)", "[]"}, row{"keys(lost)", "[]"}, row{"keys(r)", "['k']"}, row{"keys(u)", "[]"}, row{"keys(lostr)", "[]"}, row{"keys(o)", "['b c', 'k', 'nil']"}, row{"keys({})", "[]"}, row{"keys({b: 1, a: null})", "['a', 'b']"},
		row{"size('')", "0"}, row{"size('é')", "2"}, row{"size(t)", "3"}, row{"size([])", "0"}, row{"size(l)", "3"}, row{"size([[1, 2]])", "1"},
		row{"head(l)", "1"}, row{"head([])", "null"}, row{"head([null, 1])", "null"}, row{"head([[1]])", "[1]"}, row{"last(l)", "'a'"}, row{"last([])", "null"}, row{"last([1, null])", "null"},
		row{"abs(-5)", "5"}, row{"abs(5)", "5"}, row{"abs(0)", "0"}, row{"abs(-9223372036854775808)", "!wide"}, row{"abs(-9223372036854775807)", "9223372036854775807"},
		row{"toString('a\\n')", `'a\n'`}, row{"toString(-5)", "'-5'"}, row{"toString(true)", "'true'"}, row{"toString(false)", "'false'"}, row{"toString(-9223372036854775808)", "'-9223372036854775808'"},
		row{"range(1, 3)", "[1, 2, 3]"}, row{"range(3, 1)", "[]"}, row{"range(3, 1, -1)", "[3, 2, 1]"}, row{"range(1, 5, 2)", "[1, 3, 5]"}, row{"range(1, 6, 2)", "[1, 3, 5]"}, row{"range(5, 1, -2)", "[5, 3, 1]"}, row{"range(2, 2, -7)", "[2]"}, row{"range(9223372036854775806, 9223372036854775807, 5)", "[9223372036854775806]"}, row{"range(1, 2, 0)", "!zero"}, row{"range(2, 1, 0)", "!zero"},
	)
}

// Nothing among the Kids is nothing, whatever the others are; a value of another kind goes wrong.
func TestFunctionsOfOtherKinds(t *testing.T) {
	samples := map[string]string{"truth": "true", "number": "5", "text": "'a'", "list": "[1]", "map": "{a: 1}", "node": "n", "rel": "r"}
	for name, takes := range map[string][]string{
		"id": {"node", "rel"}, "labels": {"node"}, "type": {"rel"}, "keys": {"map", "node", "rel"}, "size": {"text", "list"}, "head": {"list"}, "last": {"list"}, "abs": {"number"}, "toString": {"text", "number", "truth"},
	} {
		worth(t, row{name + "(null)", "null"}, row{name + "(x)", "null"})
		others := map[string]string{}
		for kind, s := range samples {
			others[kind] = s
		}
		for _, kind := range takes {
			delete(others, kind)
		}
		for _, s := range others {
			worth(t, row{name + "(" + s + ")", "!type"})
		}
	}
	for kind, s := range samples {
		if kind == "number" {
			continue
		}
		worth(t,
			row{"range(" + s + ", 1)", "!type"}, row{"range(1, " + s + ")", "!type"}, row{"range(1, 2, " + s + ")", "!type"}, row{"range(" + s + ", 1, 0)", "!type"}, row{"range(1, " + s + ", 0)", "!type"},
			row{"range(null, " + s + ")", "null"}, row{"range(" + s + ", null)", "null"}, row{"range(" + s + ", 1, null)", "null"}, row{"range(null, 1, " + s + ")", "null"},
		)
	}
	worth(t, row{"range(null, 1, 0)", "null"}, row{"range(1, null, 0)", "null"}, row{"range(1, 2, null)", "null"}, row{"range(null, null)", "null"})
}
