package syntax_test

import (
	"fmt"
	"strconv"
	"strings"
	"testing"

	"lattice/api"
	"lattice/syntax"
	"lattice/value"
)

// P4.2

// read tells whether an expression is that of its own text, by the tests' way of telling.
func read(e api.Expr) (ok bool) {
	defer func() {
		if recover() != nil {
			ok = false // it has not even what its text is made of
		}
	}()
	again, _, x := syntax.ParseExpr(toldExpr(e))
	return x == api.OK && same(again, e)
}

// readClause is so of a clause.
func readClause(c api.Clause) (ok bool) {
	defer func() {
		if recover() != nil {
			ok = false
		}
	}()
	q := api.Query{Clauses: []api.Clause{c}}
	again, _, x := syntax.Parse(told(q))
	return x == api.OK && same(again, q)
}

// mayBe holds what Check, Print, CheckExpr and Text tell of an expression, wherever it stands.
func mayBe(t *testing.T, e api.Expr, want bool) {
	t.Helper()
	text := ""
	if want {
		text = toldExpr(e)
	}
	if x := syntax.CheckExpr(e); x != errno(want) || syntax.Text(e) != text {
		t.Errorf("%+v: %v %q", e, x, syntax.Text(e))
	}
	for i, c := range []api.Clause{
		{Kind: api.ClauseUnwind, Expr: e, As: "a"},
		{Kind: api.ClauseReturn, Items: []api.Item{{Expr: num(1)}, {Expr: e}}},
		{Kind: api.ClauseWith, Items: []api.Item{{}}, Order: []api.SortKey{{Expr: e}}},
		{Kind: api.ClauseReturn, Items: []api.Item{{}}, HasSkip: true, Skip: e},
		{Kind: api.ClauseWith, Items: []api.Item{{}}, HasLimit: true, Limit: e},
		{Kind: api.ClauseWith, Items: []api.Item{{}}, HasWhere: true, Where: e},
		{Paths: []api.Path{{Nodes: make([]api.NodePat, 1)}}, HasWhere: true, Where: e},
		{Kind: api.ClauseSet, Sets: []api.SetItem{{Var: "a", Key: "b", Value: e}}},
	} {
		clauseMayBe(t, c, want, fmt.Sprintf("%d: %+v", i, e))
	}
}

// clauseMayBe holds what Check and Print tell of a clause, in queries of it alone and with others.
func clauseMayBe(t *testing.T, c api.Clause, want bool, what string) {
	t.Helper()
	other := api.Clause{Kind: api.ClauseDelete, Vars: []string{"x"}}
	for _, l := range [][]api.Clause{{c}, {other, c}, {c, other}} {
		q := api.Query{Clauses: l}
		text := ""
		if want {
			text = told(q)
		}
		s, x := syntax.Print(q)
		if e := syntax.Check(q); e != errno(want) || x != errno(want) || s != text {
			t.Errorf("%s: %v %v %q, %v wanted", what, e, x, s, want)
		}
	}
}

func errno(ok bool) api.Errno {
	if ok {
		return api.OK
	}
	return api.ErrArg
}

// TestAllSmallExpressions puts all fields together that an expression may have, and many that it may not.
func TestAllSmallExpressions(t *testing.T) {
	a := variable("a")
	values := []api.Value{{}, value.Bool(true), {Bool: true}, value.Int(-1), {Int: 1}, value.String("x"), value.String("\xff"), {Text: "x"}, value.List(), {List: []api.Value{{}}}, {Kind: 6}, {Kind: -1}, {Kind: api.ValueInt, Int: 1, Text: "x"}, {Kind: api.ValueText, Text: "x", Bool: true}, {Kind: api.ValueBool, Keys: []string{"a"}}, {Kind: api.ValueMap}, {Kind: api.ValueText, List: []api.Value{{}}}, {Kind: api.ValueBool, Int: 1}}
	count := 0
	for kind := api.ExprKind(-1); kind < 18; kind++ {
		for _, name := range []string{"", "a", "match", "=", "or", "OR", "STARTS", "STARTS WITH", "a\x00", strings.Repeat("x", 65), "\xff"} {
			for _, v := range values {
				for _, keys := range [][]string{nil, {}, {"a"}, {""}, {"a", "a"}, {"b", "a"}} {
					for _, kids := range [][]api.Expr{nil, {}, {a}, {{Kind: 99}}, {a, num(1)}, {a, a, a}, {a, {Kind: api.ExprVar}, a}, {a, a, a, a}} {
						for _, distinct := range []bool{false, true} {
							e := api.Expr{Kind: kind, Name: name, Value: v, Keys: keys, Kids: kids, Distinct: distinct}
							want := read(e)
							text := ""
							if want {
								text = toldExpr(e)
								count++
							}
							if x := syntax.CheckExpr(e); x != errno(want) || syntax.Text(e) != text {
								t.Fatalf("%+v: %v, %v wanted", e, x, want)
							}
						}
					}
				}
			}
		}
	}
	if count < 100 {
		t.Error(count)
	}
}

func TestExpressionsThatMayBe(t *testing.T) {
	a := variable("a")
	for _, e := range []api.Expr{
		null(), truth(true), truth(false), num(0), num(-1), num(-1 << 63), num(1<<63 - 1), str(""), str("it's\x00\n"), param("a b"), param("match"), a, variable("match"), variable(strings.Repeat("x", 64)), variable("é"),
		of(api.ExprProp, "a", a), of(api.ExprProp, "a b", null()), of(api.ExprIndex, "", a, a), list(), list(a, a), maps(nil), maps([]string{"b", "a"}, a, a), maps([]string{"match"}, a), of(api.ExprCall, "f"), of(api.ExprCall, "a b", a, a), {Kind: api.ExprCall, Name: "f", Kids: []api.Expr{a}, Distinct: true},
		of(api.ExprCount, ""), of(api.ExprNot, "", a), of(api.ExprNeg, "", a), of(api.ExprIsNull, "", a), of(api.ExprNotNull, "", a), of(api.ExprLabel, "A", a), bin(a, "STARTS", a), of(api.ExprCase, "", a, a, a), of(api.ExprCase, "", a, a, a, a, null()),
	} {
		mayBe(t, e, true)
	}
	for _, o := range operators() {
		mayBe(t, bin(a, o, a), true)
		mayBe(t, bin(a, o+" ", a), false)
	}
	for _, e := range []api.Expr{
		{Kind: -1}, {Kind: 16}, {Kind: 1 << 40}, {Value: value.List()}, {Value: api.Value{Kind: api.ValueNode}}, str("\xff"), {Name: "a"}, {Kids: []api.Expr{a}}, {Distinct: true},
		param(""), variable(""), variable("\xff"), variable("a\x00"), variable(strings.Repeat("x", 65)), {Kind: api.ExprVar, Name: "a", Value: value.Bool(false)}, {Kind: api.ExprVar, Name: "a", Keys: []string{""}},
		of(api.ExprProp, "", a), of(api.ExprProp, "a"), of(api.ExprProp, "a", a, a), of(api.ExprIndex, "", a), of(api.ExprIndex, "", a, a, a), of(api.ExprIndex, "a", a, a), of(api.ExprList, "a"), {Kind: api.ExprList, Keys: []string{"a"}, Kids: []api.Expr{a}}, {Kind: api.ExprList, Kids: []api.Expr{a}, Distinct: true},
		maps([]string{"a"}), maps(nil, a), maps([]string{"a", "a"}, a, a), maps([]string{""}, a), maps([]string{"\xff"}, a), {Kind: api.ExprMap, Name: "a"}, of(api.ExprCall, ""), {Kind: api.ExprCall, Name: "f", Distinct: true}, of(api.ExprCount, "count"), of(api.ExprCount, "", a), {Kind: api.ExprCount, Distinct: true},
		of(api.ExprNot, ""), of(api.ExprNeg, ""), of(api.ExprIsNull, "", a, a), of(api.ExprNotNull, "NOT", a), of(api.ExprLabel, "", a), of(api.ExprLabel, "a"), bin(a, "", a), bin(a, "?", a), bin(a, "or", a), bin(a, "NOT", a), of(api.ExprBin, "OR", a), of(api.ExprBin, "OR", a, a, a),
		of(api.ExprCase, ""), of(api.ExprCase, "", a), of(api.ExprCase, "", a, a), of(api.ExprCase, "", a, a, a, a), of(api.ExprCase, "a", a, a, a),
	} {
		mayBe(t, e, false)
		mayBe(t, list(a, e), false)
		mayBe(t, of(api.ExprNot, "", of(api.ExprNeg, "", e)), false)
		mayBe(t, of(api.ExprCase, "", a, a, e), false)
		mayBe(t, of(api.ExprIndex, "", a, e), false)
		mayBe(t, maps([]string{"k"}, e), false)
	}
}

func TestExpressionsAtTheirBounds(t *testing.T) {
	a := variable("a")
	many := func(n int) []api.Expr {
		l := make([]api.Expr, n)
		for i := range l {
			l[i] = a
		}
		return l
	}
	keys := func(n int) []string {
		l := make([]string, n)
		for i := range l {
			l[i] = "k" + strconv.Itoa(i)
		}
		return l
	}
	for _, n := range []int{api.MaxItems - 1, api.MaxItems, api.MaxItems + 1, 5000} {
		ok := n <= api.MaxItems
		mayBe(t, list(many(n)...), ok)
		mayBe(t, of(api.ExprCall, "f", many(n)...), ok)
		mayBe(t, maps(keys(n), many(n)...), ok)
		mayBe(t, of(api.ExprCase, "", many(2*n+1)...), ok)
	}
	wrappers := []func(api.Expr) api.Expr{
		func(e api.Expr) api.Expr { return list(e) },
		func(e api.Expr) api.Expr { return maps([]string{"k"}, e) },
		func(e api.Expr) api.Expr { return of(api.ExprNot, "", e) },
		func(e api.Expr) api.Expr { return of(api.ExprNeg, "", e) },
		func(e api.Expr) api.Expr { return of(api.ExprProp, "p", e) },
		func(e api.Expr) api.Expr { return of(api.ExprIndex, "", a, e) },
		func(e api.Expr) api.Expr { return bin(e, "OR", a) },
		func(e api.Expr) api.Expr { return bin(a, "-", e) },
		func(e api.Expr) api.Expr { return of(api.ExprCase, "", a, a, e) },
		func(e api.Expr) api.Expr { return of(api.ExprLabel, "L", e) },
		func(e api.Expr) api.Expr { return of(api.ExprCall, "f", a, e) },
	}
	for i, x := range wrappers {
		for j, y := range wrappers {
			e := a
			for n := 2; n <= api.MaxDepth+1; n++ {
				if n%2 == 0 {
					e = x(e)
				} else {
					e = y(e)
				}
				if n < api.MaxDepth {
					continue
				}
				want := n <= api.MaxDepth
				if syntax.CheckExpr(e) != errno(want) || (syntax.Text(e) != "") != want || want != read(e) {
					t.Error(i, j, n, syntax.CheckExpr(e))
				}
			}
		}
	}
	deep := a
	for range 1 << 16 {
		deep = list(deep)
	}
	mayBe(t, deep, false)
}

func TestClausesThatMayBe(t *testing.T) {
	a, bad := variable("a"), variable("")
	node := []api.NodePat{{Var: "a"}}
	paths := []api.Path{{Nodes: node}}
	items := []api.Item{{Expr: a}}
	bases := []api.Clause{
		{}, {Paths: paths}, {Kind: api.ClauseUnwind, Expr: a, As: "b"}, {Kind: api.ClauseWith, Items: items}, {Kind: api.ClauseReturn, Items: items}, {Kind: api.ClauseCreate, Paths: paths},
		{Kind: api.ClauseSet, Sets: []api.SetItem{{Var: "a", Key: "k", Value: a}}}, {Kind: api.ClauseRemove, Sets: []api.SetItem{{Var: "a", Key: "k"}}}, {Kind: api.ClauseDelete, Vars: []string{"a"}}, {Kind: -1}, {Kind: 8}, {Kind: 1 << 40},
	}
	changes := []func(*api.Clause){
		func(c *api.Clause) {},
		func(c *api.Clause) { c.Optional = true },
		func(c *api.Clause) { c.Distinct = true },
		func(c *api.Clause) { c.Detach = true },
		func(c *api.Clause) { c.Paths = paths },
		func(c *api.Clause) { c.Paths = []api.Path{} },
		func(c *api.Clause) { c.Paths = []api.Path{{}} },
		func(c *api.Clause) { c.Paths = []api.Path{paths[0], {Nodes: make([]api.NodePat, 2)}} },
		func(c *api.Clause) {
			c.Paths = []api.Path{{Nodes: make([]api.NodePat, 2), Rels: make([]api.RelPat, 1)}}
		},
		func(c *api.Clause) {
			c.Paths = []api.Path{{Nodes: make([]api.NodePat, 1), Rels: make([]api.RelPat, 1)}}
		},
		func(c *api.Clause) { c.Items = items },
		func(c *api.Clause) { c.Items = []api.Item{{Expr: a, As: "b"}, {Expr: a, As: "b"}} },
		func(c *api.Clause) { c.Items = []api.Item{{Expr: a, As: "\xff"}} },
		func(c *api.Clause) { c.Items = []api.Item{{Expr: bad}} },
		func(c *api.Clause) { c.Items = nil },
		func(c *api.Clause) { c.Order = []api.SortKey{{Expr: a}, {Expr: a, Desc: true}} },
		func(c *api.Clause) { c.Order = []api.SortKey{{Expr: bad}} },
		func(c *api.Clause) { c.HasWhere = true },
		func(c *api.Clause) { c.Where = a },
		func(c *api.Clause) { c.HasWhere, c.Where = true, bad },
		func(c *api.Clause) { c.HasSkip = true },
		func(c *api.Clause) { c.Skip = a },
		func(c *api.Clause) { c.HasLimit, c.Limit = true, a },
		func(c *api.Clause) { c.Limit = a },
		func(c *api.Clause) { c.Expr = num(1) },
		func(c *api.Clause) { c.Expr = bad },
		func(c *api.Clause) { c.As = "c" },
		func(c *api.Clause) { c.As = "" },
		func(c *api.Clause) { c.As = strings.Repeat("x", 65) },
		func(c *api.Clause) { c.Sets = []api.SetItem{{Var: "a", Key: "k", Value: num(1)}} },
		func(c *api.Clause) {
			c.Sets = []api.SetItem{{Var: "a", Key: "k"}, {Kind: api.SetLabel, Var: "a", Key: "k"}}
		},
		func(c *api.Clause) { c.Sets = []api.SetItem{{Kind: api.SetLabel, Var: "a", Key: "k", Value: num(1)}} },
		func(c *api.Clause) { c.Sets = []api.SetItem{{Kind: 2, Var: "a", Key: "k"}} },
		func(c *api.Clause) { c.Sets = []api.SetItem{{Kind: -1, Var: "a", Key: "k"}} },
		func(c *api.Clause) { c.Sets = []api.SetItem{{Var: "", Key: "k"}} },
		func(c *api.Clause) { c.Sets = []api.SetItem{{Var: "a", Key: ""}} },
		func(c *api.Clause) { c.Sets = []api.SetItem{{Kind: api.SetLabel, Var: "a"}} },
		func(c *api.Clause) { c.Sets = []api.SetItem{{Var: "a", Key: "k", Value: bad}} },
		func(c *api.Clause) { c.Sets = nil },
		func(c *api.Clause) { c.Vars = []string{"a", "match", "a"} },
		func(c *api.Clause) { c.Vars = []string{"a", ""} },
		func(c *api.Clause) { c.Vars = []string{} },
	}
	good := 0
	for i, b := range bases {
		for j, x := range changes {
			for k, y := range changes {
				c := b
				x(&c)
				y(&c)
				want := readClause(c)
				clauseMayBe(t, c, want, fmt.Sprint(i, j, k))
				if want {
					good++
				}
			}
		}
	}
	if good < 200 {
		t.Error(good)
	}
}

func TestPatternsThatMayBe(t *testing.T) {
	k := maps([]string{"k"}, num(1))
	long := strings.Repeat("x", 65)
	names := func(n int) []string {
		l := make([]string, n)
		for i := range l {
			l[i] = "A"
		}
		return l
	}
	for i, x := range []struct {
		n    api.NodePat
		want bool
	}{
		{api.NodePat{}, true}, {api.NodePat{Var: "match", Labels: []string{"a", "a b"}, Has: true, Props: k}, true}, {api.NodePat{Has: true, Props: maps(nil)}, true}, {api.NodePat{Labels: names(api.MaxItems)}, true},
		{api.NodePat{Var: long}, false}, {api.NodePat{Var: "\xff"}, false}, {api.NodePat{Labels: []string{"a", ""}}, false}, {api.NodePat{Labels: names(api.MaxItems + 1)}, false}, {api.NodePat{Has: true}, false}, {api.NodePat{Props: k}, false}, {api.NodePat{Has: true, Props: list()}, false}, {api.NodePat{Has: true, Props: param("a")}, false}, {api.NodePat{Has: true, Props: maps([]string{"k"})}, false}, {api.NodePat{Props: maps(nil)}, false},
	} {
		for _, kind := range []api.ClauseKind{api.ClauseMatch, api.ClauseCreate} {
			clauseMayBe(t, api.Clause{Kind: kind, Paths: []api.Path{{Nodes: []api.NodePat{x.n}}}}, x.want, fmt.Sprint(i))
			clauseMayBe(t, api.Clause{Kind: kind, Paths: []api.Path{{Nodes: []api.NodePat{{}}}, {Nodes: []api.NodePat{{}, x.n}, Rels: make([]api.RelPat, 1)}}}, x.want, fmt.Sprint(i))
		}
	}
	for i, x := range []struct {
		r    api.RelPat
		want bool
	}{
		{api.RelPat{}, true}, {api.RelPat{Dir: 1}, true}, {api.RelPat{Dir: -1}, true}, {api.RelPat{Var: "a b", Types: []string{"T", "match"}, Dir: 1, Has: true, Props: k}, true}, {api.RelPat{Has: true, Props: maps(nil)}, true}, {api.RelPat{Types: names(api.MaxItems)}, true},
		{api.RelPat{Dir: 2}, false}, {api.RelPat{Dir: -2}, false}, {api.RelPat{Dir: 1 << 40}, false}, {api.RelPat{Var: long}, false}, {api.RelPat{Types: []string{""}}, false}, {api.RelPat{Types: names(api.MaxItems + 1)}, false}, {api.RelPat{Has: true}, false}, {api.RelPat{Props: k}, false}, {api.RelPat{Has: true, Props: num(1)}, false},
	} {
		clauseMayBe(t, api.Clause{Paths: []api.Path{{Nodes: make([]api.NodePat, 2), Rels: []api.RelPat{x.r}}}}, x.want, fmt.Sprint(i))
		clauseMayBe(t, api.Clause{Kind: api.ClauseCreate, Paths: []api.Path{{Nodes: make([]api.NodePat, 3), Rels: []api.RelPat{{}, x.r}}}}, x.want, fmt.Sprint(i))
	}
}

func TestQueriesAtTheirBounds(t *testing.T) {
	if e := syntax.Check(api.Query{}); e != api.ErrArg {
		t.Error(e)
	}
	if s, e := syntax.Print(api.Query{Clauses: []api.Clause{}}); s != "" || e != api.ErrArg {
		t.Error(s, e)
	}
	one := api.Clause{Kind: api.ClauseDelete, Vars: []string{"a"}}
	for _, n := range []int{api.MaxClauses, api.MaxClauses + 1} {
		q := api.Query{Clauses: make([]api.Clause, n)}
		for i := range q.Clauses {
			q.Clauses[i] = one
		}
		if e := syntax.Check(q); e != errno(n == api.MaxClauses) {
			t.Error(n, e)
		}
	}
	for _, n := range []int{api.MaxItems, api.MaxItems + 1} {
		ok := n == api.MaxItems
		vars := make([]string, n)
		sets := make([]api.SetItem, n)
		paths := make([]api.Path, n)
		for i := range n {
			vars[i], sets[i], paths[i] = "a", api.SetItem{Var: "a", Key: "b"}, api.Path{Nodes: make([]api.NodePat, 1)}
		}
		for i, c := range []api.Clause{
			{Paths: paths}, {Kind: api.ClauseCreate, Paths: paths}, {Paths: []api.Path{{Nodes: make([]api.NodePat, n+1), Rels: make([]api.RelPat, n)}}}, {Kind: api.ClauseReturn, Items: make([]api.Item, n)}, {Kind: api.ClauseWith, Items: make([]api.Item, n)}, {Kind: api.ClauseWith, Items: make([]api.Item, 1), Order: make([]api.SortKey, n)},
			{Kind: api.ClauseSet, Sets: sets}, {Kind: api.ClauseRemove, Sets: sets}, {Kind: api.ClauseDelete, Vars: vars},
		} {
			clauseMayBe(t, c, ok, fmt.Sprint(n, i))
		}
	}
}

// TestPrintLong asks for a text of as many bytes as may be, and of one more.
func TestPrintLong(t *testing.T) {
	q := func(n int) api.Query {
		return api.Query{Clauses: []api.Clause{{Kind: api.ClauseReturn, Items: []api.Item{{Expr: str(strings.Repeat("x", n))}}}}}
	}
	most := api.MaxText - len("RETURN ''")
	s, e := syntax.Print(q(most))
	if len(s) != api.MaxText || e != api.OK {
		t.Error(len(s), e)
	}
	if again, _, e := syntax.Parse(s); e != api.OK || !same(again, q(most)) {
		t.Error(e)
	}
	for _, n := range []int{most + 1, api.MaxText, api.MaxText + 1, 1 << 22} {
		if s, e := syntax.Print(q(n)); s != "" || e != api.ErrLong || syntax.Check(q(n)) != api.OK {
			t.Error(n, len(s), e)
		}
		if s := syntax.Text(q(n).Clauses[0].Items[0].Expr); s != "'"+strings.Repeat("x", n)+"'" {
			t.Error(n, len(s))
		}
	}
	// What may not be counts ahead of what is too long.
	wrong := q(api.MaxText)
	wrong.Clauses = append(wrong.Clauses, api.Clause{Kind: api.ClauseDelete})
	if s, e := syntax.Print(wrong); s != "" || e != api.ErrArg {
		t.Error(len(s), e)
	}
	// A text that may be read may be too long when it is told.
	short := "RETURN" + strings.TrimSuffix(strings.Repeat(" [1,1,1,1,1,1,1,1,1],", 1000), ",")
	short += strings.Repeat(" RETURN"+strings.TrimSuffix(strings.Repeat("[1,1,1,1,1,1,1,1,1],", 1000), ","), 50)
	long, at, e := syntax.Parse(short)
	if at != 0 || e != api.OK {
		t.Fatal(at, e)
	}
	if s, e := syntax.Print(long); s != "" || e != api.ErrLong || syntax.Check(long) != api.OK {
		t.Error(len(s), e)
	}
}
