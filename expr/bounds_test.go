package expr_test

import (
	"slices"
	"strconv"
	"strings"
	"testing"

	"lattice/api"
	"lattice/expr"
	"lattice/graph"
	"lattice/value"
)

// P7.1: values that are too great when they come out, and those that are as great as may be.

// deepList is a list in lists, nested so deep.
func deepList(deep int) api.Value {
	v := value.List()
	for range deep - 1 {
		v = value.List(v)
	}
	return v
}

func numbers(n int) api.Value {
	v := api.Value{Kind: api.ValueList, List: make([]api.Value, n)}
	for i := range v.List {
		v.List[i] = value.Int(int64(i))
	}
	return v
}

func text(n int) api.Value { return value.String(strings.Repeat("t", n)) }

// shape tells a great value in few words: its error, or how many values it is, how deep, and with how many bytes of texts at its top.
func shape(v api.Value, no api.Errno) string {
	if no != api.OK {
		return told(v, no)
	}
	n, deep := value.Size(v)
	return strconv.Itoa(n) + " " + strconv.Itoa(deep) + " " + strconv.Itoa(len(v.Text))
}

func TestListsThatAreTooLong(t *testing.T) {
	g := world(t)
	p := api.Place{Params: []api.Param{{Name: "full", Value: numbers(api.MaxRows)}, {Name: "less", Value: numbers(api.MaxRows - 1)}, {Name: "half", Value: numbers(api.MaxRows / 2)}}}
	for _, x := range []row{
		{"$full", "65537 2 0"}, {"$less + [1]", "65537 2 0"}, {"[1] + $less", "65537 2 0"}, {"$half + $half", "65537 2 0"}, {"$full + []", "65537 2 0"}, {"[] + $full", "65537 2 0"}, {"[$full, $full]", "131075 3 0"}, {"{a: $full, b: $full}", "131075 3 0"},
		{"$full + [1]", "!great"}, {"[1] + $full", "!great"}, {"$full + $full", "!great"}, {"$half + $half + [null]", "!great"}, {"[$full + [1]]", "!great"}, {"size($full + [1])", "!great"}, {"head($full + [1])", "!great"}, {"($full + [1])[0]", "!great"}, {"$full + [1] IS NULL", "!great"}, {"1 IN $full + [1]", "!great"}, {"coalesce(null, $full + [1])", "!great"},
		{"range(1, 65536)", "65537 2 0"}, {"range(0, 65536)", "!great"}, {"range(65536, 1, -1)", "65537 2 0"}, {"range(65536, 0, -1)", "!great"}, {"range(0, 131070, 2)", "65537 2 0"}, {"range(0, 131072, 2)", "!great"}, {"range(-9223372036854775808, 9223372036854775807)", "!great"}, {"range(-9223372036854775808, 9223372036854775807, 9223372036854775807)", "4 2 0"},
		{"size($full)", "1 1 0"}, {"last($full)", "1 1 0"}, {"$full[-1]", "1 1 0"}, {"$full = $full", "1 1 0"}, {"65535 IN $full", "1 1 0"},
		{"range(1, 65536) + [1 / 0]", "!zero"}, {"[$full + [1], 1 / 0]", "!great"}, {"[1 / 0, $full + [1]]", "!zero"}, {"false AND $full + [1]", "1 1 0"}, {"CASE WHEN true THEN 1 ELSE $full + [1] END", "1 1 0"}, {"$full + 1", "!type"}, {"$full + null", "1 1 0"},
	} {
		if got := shape(expr.Eval(g, p, read(t, x.text))); got != x.want {
			t.Errorf("%s: %s, not %s", x.text, got, x.want)
		}
	}
}

func TestTextsThatAreTooLong(t *testing.T) {
	g := world(t)
	p := api.Place{Params: []api.Param{{Name: "full", Value: text(api.MaxText)}, {Name: "half", Value: text(api.MaxText / 2)}, {Name: "keyed", Value: mapOf([]string{text(api.MaxText).Text}, value.Int(1))}}}
	for _, x := range []row{
		{"$full", "1 1 1048576"}, {"$half + $half", "1 1 1048576"}, {"$full + ''", "1 1 1048576"}, {"toString($full)", "1 1 1048576"}, {"[$half, $half]", "3 2 0"}, {"[$half] + [$half]", "3 2 0"}, {"keys($keyed)", "2 2 0"}, {"{` `: 1}", "2 2 0"},
		{"$full + 'a'", "!great"}, {"'a' + $full", "!great"}, {"$full + $full", "!great"}, {"size($full + 'a')", "!great"}, {"$half + $half + $half", "!great"}, {"[$full, 'a']", "!great"}, {"['a', $full]", "!great"}, {"[$full, '']", "3 2 0"}, {"[$half, [$half, 'a']]", "!great"}, {"[$half] + [$half, 'a']", "!great"}, {"{a: $full}", "!great"}, {"[$keyed, 'a']", "!great"}, {"{a: $half, b: $half}", "!great"}, {"($full + 'a') STARTS WITH 'a'", "!great"}, {"$full + 'a' = 1", "!great"}, {"[$full, $full] IS NULL", "!great"}, {"head([$full, 'a'])", "!great"},
	} {
		if got := shape(expr.Eval(g, p, read(t, x.text))); got != x.want {
			t.Errorf("%s: %s, not %s", x.text, got, x.want)
		}
	}
}

// A literal's text may be of any length for layer 4, not for layer 1.
func TestLiteralsThatAreTooLong(t *testing.T) {
	most, more := literal(text(api.MaxText)), literal(text(api.MaxText+1))
	no := literal(value.Bool(false))
	for i, x := range []struct {
		e    api.Expr
		want string
	}{
		{most, "1 1 1048576"}, {more, "!great"}, {joined("=", more, more), "!great"}, {one(api.ExprIsNull, "", more), "!great"}, {call("size", more), "!great"}, {call("size", most), "1 1 0"},
		{joined("AND", no, more), "1 1 0"}, {joined("+", variable("nowhere"), more), "!var"}, {joined("+", more, variable("nowhere")), "!great"}, {call("coalesce", no, more), "1 1 0"},
	} {
		if got := shape(expr.Const(x.e)); got != x.want {
			t.Errorf("%d: %s, not %s", i, got, x.want)
		}
	}
}

func TestValuesThatAreTooDeep(t *testing.T) {
	g := world(t)
	p := api.Place{Params: []api.Param{{Name: "full", Value: deepList(api.MaxDepth)}, {Name: "less", Value: deepList(api.MaxDepth - 1)}, {Name: "held", Value: value.List(mapOf([]string{"a"}, deepList(api.MaxDepth-2)))}}}
	for _, x := range []row{
		{"$full", "64 64 0"}, {"[$less]", "64 64 0"}, {"{a: $less}", "64 64 0"}, {"$full + $full", "127 64 0"}, {"$full + [1]", "65 64 0"}, {"[$full[0]]", "64 64 0"}, {"$held", "64 64 0"}, {"[$held[0]]", "64 64 0"},
		{"[$full]", "!great"}, {"{a: $full}", "!great"}, {"[[$less]]", "!great"}, {"[1, 2, $full]", "!great"}, {"[1] + [$full]", "!great"}, {"[$full][0]", "!great"}, {"{a: $full}.a", "!great"}, {"size([$full])", "!great"}, {"[$held]", "!great"}, {"$full IN [$full]", "!great"}, {"$less IN [$less]", "1 1 0"},
	} {
		if got := shape(expr.Eval(g, p, read(t, x.text))); got != x.want {
			t.Errorf("%s: %s, not %s", x.text, got, x.want)
		}
	}
	lists := list()
	for range api.MaxDepth - 1 {
		lists = list(lists)
	}
	if got := shape(expr.Const(lists)); got != "64 64 0" {
		t.Error(got)
	}
	if got := shape(expr.Const(list(lists))); got != "!arg" {
		t.Error(got)
	}
}

// A graph may have an element with more labels, more keys than a list has room for.
func TestElementsThatAreTooGreat(t *testing.T) {
	names := func(n, long int) []string {
		l := make([]string, n)
		for i := range l {
			s := strconv.Itoa(i)
			l[i] = "k" + strings.Repeat("0", long-1-len(s)) + s
		}
		return l
	}
	for _, x := range []struct {
		n, long int
		want    string
	}{
		{api.MaxRows, 6, "65537 2 0"}, {api.MaxRows + 1, 6, "!great"}, {api.MaxText / 64, 64, "16385 2 0"}, {api.MaxText/64 + 1, 64, "!great"},
	} {
		labels := names(x.n, x.long)
		props := make([]api.Prop, x.n)
		for i, k := range labels {
			props[i] = api.Prop{Key: k, Value: value.Int(int64(i))}
		}
		g, no := graph.Make(api.Graph{Nodes: []api.Node{{Labels: labels, Props: props}}, Rels: []api.Rel{{Type: "T", Props: props}}, NextNode: 1, NextRel: 1})
		if no != api.OK {
			t.Fatal(no)
		}
		p := api.Place{Columns: []string{"n", "r"}, Row: []api.Value{node(0), rel(0)}}
		for _, s := range []string{"labels(n)", "keys(n)", "keys(r)"} {
			if got := shape(expr.Eval(g, p, read(t, s))); got != x.want {
				t.Errorf("%s of %d: %s, not %s", s, x.n, got, x.want)
			}
		}
		last := labels[x.n-1]
		if got := told(expr.Eval(g, p, read(t, "[n:"+last+", n."+last+" = r."+last+"]"))); got != "[true, true]" {
			t.Error(got)
		}
	}
}

// As many Kids as layer 4 lets be.
func TestManyKids(t *testing.T) {
	kids := slices.Repeat([]api.Expr{literal(value.Null())}, api.MaxItems-1)
	if got := told(expr.Const(call("coalesce", append(kids, literal(value.Int(7)))...))); got != "7" {
		t.Error(got)
	}
	if got := shape(expr.Const(list(append(kids, literal(value.Int(7)))...))); got != "1001 2 0" {
		t.Error(got)
	}
	whens := slices.Repeat([]api.Expr{literal(value.Bool(false)), read(t, "1 / 0")}, api.MaxItems)
	if got := told(expr.Const(api.Expr{Kind: api.ExprCase, Kids: append(whens, literal(value.Int(8)))})); got != "8" {
		t.Error(got)
	}
	chain := literal(value.Int(0))
	for i := range api.MaxDepth - 1 {
		chain = joined("+", chain, literal(value.Int(int64(i))))
	}
	if got := told(expr.Const(chain)); got != "1953" {
		t.Error(got)
	}
}
