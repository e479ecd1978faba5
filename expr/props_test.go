package expr_test

import (
	"testing"

	"lattice/api"
	"lattice/expr"
	"lattice/graph"
	"lattice/value"
)

// P7.3.

func TestProps(t *testing.T) {
	g, p := world(t), place()
	for _, x := range []row{
		{"{}", "{}"}, {"{k: 1}", "{k: 1}"}, {"{b: n.k, a: 'x', c: null}", "{a: 'x', b: 3, c: null}"}, {"{n: n, l: [1, 'a']}", "{l: [1, 'a'], n: <n0>}"}, {"$o", "{`b c`: [2], k: 5, nil: null}"}, {"o", "{`b c`: [2], k: 5, nil: null}"}, {"CASE WHEN true THEN {a: 1} END", "{a: 1}"},
		{"null", "!type"}, {"x", "!type"}, {"1", "!type"}, {"'a'", "!type"}, {"true", "!type"}, {"[]", "!type"}, {"n", "!type"}, {"r", "!type"},
		{"{a: nowhere}", "!var"}, {"{b: $nowhere, a: nowhere}", "!param"}, {"{a: 1 / 0}", "!zero"}, {"{a: 1 + true}", "!type"}, {"{a: count(*)}", "!aggregate"}, {"{a: nope()}", "!function"}, {"{a: range(0, 65536)}", "!great"}, {"{a: abs(-9223372036854775808)}", "!wide"}, {"nowhere", "!var"},
	} {
		if got := toldProps(expr.Props(g, p, true, read(t, x.text))); got != x.want {
			t.Errorf("%s: %s, not %s", x.text, got, x.want)
		}
	}
}

// A pattern without a map has none, and nothing else is asked of it.
func TestNoProps(t *testing.T) {
	bad := api.Place{Columns: []string{"a"}, Params: []api.Param{{Value: api.Value{Kind: 8}}}}
	for _, g := range []*graph.Graph{world(t), nil, {}} {
		for _, p := range []api.Place{place(), bad} {
			for _, e := range []api.Expr{{}, read(t, "{k: 1}"), read(t, "1 / 0"), {Kind: -1}} {
				if l, no := expr.Props(g, p, false, e); l != nil || no != api.OK {
					t.Error(l, no)
				}
			}
		}
	}
}

func prop(key string, v api.Value) api.Prop { return api.Prop{Key: key, Value: v} }

func TestFits(t *testing.T) {
	one, two, none := value.Int(1), value.Int(2), value.Null()
	list, holed := value.List(one, two), value.List(one, none)
	for i, x := range []struct {
		want, have []api.Prop
		is         bool
	}{
		{nil, nil, true}, {nil, []api.Prop{prop("k", one)}, true},
		{[]api.Prop{prop("k", one)}, []api.Prop{prop("k", one)}, true}, {[]api.Prop{prop("k", one)}, []api.Prop{prop("k", two)}, false}, {[]api.Prop{prop("k", one)}, nil, false}, {[]api.Prop{prop("k", one)}, []api.Prop{prop("l", one)}, false}, {[]api.Prop{prop("k", one)}, []api.Prop{prop("K", one)}, false},
		{[]api.Prop{prop("k", one)}, []api.Prop{prop("a", two), prop("k", one), prop("z", two)}, true}, {[]api.Prop{prop("k", one), prop("l", two)}, []api.Prop{prop("k", one), prop("l", two)}, true}, {[]api.Prop{prop("l", two), prop("k", one)}, []api.Prop{prop("k", one), prop("l", two)}, true}, {[]api.Prop{prop("k", one), prop("l", one)}, []api.Prop{prop("k", one), prop("l", two)}, false}, {[]api.Prop{prop("k", two), prop("l", two)}, []api.Prop{prop("k", one), prop("l", two)}, false}, {[]api.Prop{prop("k", one), prop("l", two)}, []api.Prop{prop("k", one)}, false},
		{[]api.Prop{prop("k", one)}, []api.Prop{prop("k", value.String("1"))}, false}, {[]api.Prop{prop("k", value.String("a"))}, []api.Prop{prop("k", value.String("a"))}, true}, {[]api.Prop{prop("k", value.Bool(false))}, []api.Prop{prop("k", value.Bool(false))}, true}, {[]api.Prop{prop("k", list)}, []api.Prop{prop("k", value.List(one, two))}, true}, {[]api.Prop{prop("k", list)}, []api.Prop{prop("k", value.List(two, one))}, false}, {[]api.Prop{prop("k", holed)}, []api.Prop{prop("k", list)}, false}, {[]api.Prop{prop("k", holed)}, []api.Prop{prop("k", holed)}, false}, {[]api.Prop{prop("k", node(0))}, []api.Prop{prop("k", node(0))}, true},
		{[]api.Prop{prop("k", none)}, nil, false}, {[]api.Prop{prop("k", none)}, []api.Prop{prop("k", none)}, false}, {[]api.Prop{prop("k", none)}, []api.Prop{prop("k", one)}, false}, {[]api.Prop{prop("k", one)}, []api.Prop{prop("k", none)}, false}, {[]api.Prop{prop("k", one), prop("l", none)}, []api.Prop{prop("k", one)}, false},
		{[]api.Prop{prop("k", one)}, []api.Prop{prop("k", one), prop("k", two)}, true}, {[]api.Prop{prop("k", two)}, []api.Prop{prop("k", one), prop("k", two)}, false}, {[]api.Prop{prop("k", one), prop("k", one)}, []api.Prop{prop("k", one)}, true}, {[]api.Prop{prop("k", one), prop("k", two)}, []api.Prop{prop("k", one)}, false},
		{[]api.Prop{prop("", one), prop("\xff", two)}, []api.Prop{prop("\xff", two), prop("", one)}, true},
	} {
		if expr.Fits(x.want, x.have) != x.is {
			t.Errorf("%d: %v", i, !x.is)
		}
	}
	for what, v := range badValues() {
		if expr.Fits([]api.Prop{prop("k", v)}, []api.Prop{prop("k", v)}) || expr.Fits([]api.Prop{prop("k", v)}, nil) {
			t.Error(what)
		}
	}
}

func TestConst(t *testing.T) {
	params := []api.Param{{Name: "a", Value: value.Int(1)}, {Name: "b", Value: node(0)}, {Name: "a", Value: value.Int(2)}, {Name: "r", Value: rel(0)}}
	for _, x := range []row{
		{"1 + 1", "2"}, {"$a", "1"}, {"[$a, $b]", "[1, <n0>]"}, {"$b.k", "null"}, {"$b:A", "false"}, {"labels($b)", "[]"}, {"keys($b)", "[]"}, {"type($r)", "null"}, {"keys($r)", "[]"}, {"id($b)", "0"},
		{"a", "!var"}, {"$c", "!param"}, {"1 / 0", "!zero"}, {"count(*)", "!aggregate"}, {"nope(1)", "!function"}, {"1 + true", "!type"}, {"range(0, 65536)", "!great"}, {"-(-9223372036854775808)", "!wide"},
	} {
		if got := told(expr.Const(read(t, x.text), params...)); got != x.want {
			t.Errorf("%s: %s, not %s", x.text, got, x.want)
		}
		g, _ := graph.Make(api.Graph{})
		if got := told(expr.Eval(g, api.Place{Params: params}, read(t, x.text))); got != x.want {
			t.Errorf("%s: %s, not %s", x.text, got, x.want)
		}
	}
	if got := told(expr.Const(read(t, "$a"))); got != "!param" {
		t.Error(got)
	}
}
