package clauses_test

import (
	"reflect"
	"strings"
	"testing"

	"lattice/api"
	"lattice/clauses"
	"lattice/value"
)

// P9.2: Fold, Without.

func aggregate(name string, distinct bool) api.Expr {
	if name == "count(*)" {
		return api.Expr{Kind: api.ExprCount}
	}
	return api.Expr{Kind: api.ExprCall, Name: name, Kids: []api.Expr{{Kind: api.ExprVar, Name: "x"}}, Distinct: distinct}
}

func TestFold(t *testing.T) {
	null, text := value.Null(), value.String
	most, least := int64(1<<63-1), int64(-1<<63)
	for _, x := range []struct {
		values []api.Value
		want   string // count(*); count, sum, min, max, collect; the same of each value once
	}{
		{nil, "0; 0 0 null null []; 0 0 null null []"},
		{row(null), "1; 0 0 null null []; 0 0 null null []"},
		{row(null, null, null), "3; 0 0 null null []; 0 0 null null []"},
		{ints(7), "1; 1 7 7 7 [7]; 1 7 7 7 [7]"},
		{ints(3, 1, 3, -5), "4; 4 2 -5 3 [-5, 1, 3, 3]; 3 -1 -5 3 [-5, 1, 3]"},
		{append(ints(3, 1), null, value.Int(3), null), "5; 3 7 1 3 [1, 3, 3]; 2 4 1 3 [1, 3]"},
		{ints(0, 0), "2; 2 0 0 0 [0, 0]; 1 0 0 0 [0]"},
		{ints(most, 1, -1), "3; 3 9223372036854775807 -1 9223372036854775807 [-1, 1, 9223372036854775807]; 3 9223372036854775807 -1 9223372036854775807 [-1, 1, 9223372036854775807]"},
		{ints(most, most), "2; 2 !wrong 9223372036854775807 9223372036854775807 [9223372036854775807, 9223372036854775807]; 1 9223372036854775807 9223372036854775807 9223372036854775807 [9223372036854775807]"},
		{ints(least, -1), "2; 2 !wrong -9223372036854775808 -1 [-9223372036854775808, -1]; 2 !wrong -9223372036854775808 -1 [-9223372036854775808, -1]"},
		{row(text("b"), text("a"), text("b")), "3; 3 !wrong 'a' 'b' ['a', 'b', 'b']; 2 !wrong 'a' 'b' ['a', 'b']"},
		{row(value.Int(1), text("1")), "2; 2 !wrong '1' 1 ['1', 1]; 2 !wrong '1' 1 ['1', 1]"},
		{row(value.Bool(true), value.Bool(false)), "2; 2 !wrong false true [false, true]; 2 !wrong false true [false, true]"},
		{row(node(3), null, node(1), rel(0), node(3)), "5; 4 !wrong n1 r0 [n1, n3, n3, r0]; 3 !wrong n1 r0 [n1, n3, r0]"},
		{row(value.List(null), value.List(), entry("k", null), value.List(null)), "4; 4 !wrong {k: null} [null] [{k: null}, [], [null], [null]]; 3 !wrong {k: null} [null] [{k: null}, [], [null]]"},
	} {
		got := toldValue(clauses.Fold(aggregate("count(*)", false), x.values...))
		for _, distinct := range []bool{false, true} {
			got += ";"
			for _, name := range []string{"count", "sum", "min", "max", "collect"} {
				got += " " + toldValue(clauses.Fold(aggregate(name, distinct), x.values...))
			}
		}
		if got != x.want {
			t.Errorf("%s: %s, not %s", toldValue(value.List(x.values...), api.OK), got, x.want)
		}
	}
}

// Aggregates as they are read; their Kids are not asked.
func TestFoldOfTexts(t *testing.T) {
	for s, want := range map[string]string{
		"count(*)": "2", "COUNT ( * )": "2", "count(a)": "1", "sum(a.k + $p)": "4", "max(1 / 0)": "4", "collect(DISTINCT [a])": "[4]", "min(nobody)": "4",
	} {
		if got := toldValue(clauses.Fold(readExpr(t, s), value.Int(4), value.Null())); got != want {
			t.Errorf("%s: %s", s, got)
		}
	}
}

func TestFoldRefuses(t *testing.T) {
	for _, s := range []string{"1", "null", "x", "$p", "abs(x)", "size(x)", "coalesce(x)", "none(x)", "Count(x)", "MAX(x)", "1 + count(*)", "[count(*)]", "count(x) + 1", "-count(*)", "{k: sum(x)}", "NOT count(*)"} {
		if got := toldValue(clauses.Fold(readExpr(t, s), value.Int(1))); got != "!arg" {
			t.Errorf("%s: %s", s, got)
		}
	}
	x := api.Expr{Kind: api.ExprVar, Name: "x"}
	for name, e := range map[string]api.Expr{
		"nothing":               {},
		"no kind":               {Kind: -1},
		"a great kind":          {Kind: 99, Name: "count", Kids: []api.Expr{x}},
		"of no expression":      {Kind: api.ExprCall, Name: "count"},
		"of two expressions":    {Kind: api.ExprCall, Name: "sum", Kids: []api.Expr{x, x}},
		"of no kind":            {Kind: api.ExprCall, Name: "min", Kids: []api.Expr{{Kind: 99}}},
		"with a value":          {Kind: api.ExprCall, Name: "max", Kids: []api.Expr{x}, Value: value.Int(1)},
		"with keys":             {Kind: api.ExprCall, Name: "collect", Kids: []api.Expr{x}, Keys: []string{"k"}},
		"count(*) of something": {Kind: api.ExprCount, Kids: []api.Expr{x}},
		"count(*) with a name":  {Kind: api.ExprCount, Name: "count"},
		"count(*), distinct":    {Kind: api.ExprCount, Distinct: true},
	} {
		for _, l := range [][]api.Value{nil, ints(1)} {
			if got := toldValue(clauses.Fold(e, l...)); got != "!arg" {
				t.Errorf("%s: %s", name, got)
			}
		}
	}
	for name, v := range badValues() {
		for _, a := range []string{"count(*)", "count", "sum", "min", "max", "collect"} {
			for _, l := range [][]api.Value{{v}, {value.Int(1), v}, {v, value.Null()}, {value.String("no number"), v}} {
				if got := toldValue(clauses.Fold(aggregate(a, false), l...)); got != "!arg" {
					t.Errorf("%s of %s: %s", a, name, got)
				}
				if got := toldValue(clauses.Fold(aggregate(a, a != "count(*)"), l...)); got != "!arg" {
					t.Errorf("%s of %s: %s", a, name, got)
				}
			}
		}
	}
}

// A list may be too great, though none of its values is: too long, too deep, of too much text.
func TestCollectTooGreat(t *testing.T) {
	collect := aggregate("collect", false)
	half := value.String(strings.Repeat("x", api.MaxText/2))
	many := make([]api.Value, api.MaxRows)
	for i := range many {
		many[i] = value.Int(int64(i % 100))
	}
	for name, x := range map[string]struct {
		most, over []api.Value
	}{
		"long": {many, append(many[:api.MaxRows:api.MaxRows], value.Int(1))},
		"deep": {row(nested(api.MaxDepth-2, value.Int(1))), row(nested(api.MaxDepth-1, value.Int(1)))},
		"text": {row(half, half), row(half, value.String("x"), half)},
	} {
		v, no := clauses.Fold(collect, x.most...)
		if no != api.OK || len(v.List) != len(x.most) || value.Check(v) != api.OK {
			t.Errorf("%s: %v", name, no)
		}
		if got := toldValue(clauses.Fold(collect, x.over...)); got != "!wrong" {
			t.Errorf("%s: %.20s", name, got)
		}
		// What is left of it may not be.
		if _, no := clauses.Fold(collect, append(x.most[:len(x.most):len(x.most)], value.Null())...); no != api.OK {
			t.Errorf("%s, and nothing: %v", name, no)
		}
	}
	if v, no := clauses.Fold(aggregate("collect", true), append(many, many...)...); no != api.OK || len(v.List) != 100 {
		t.Error(no)
	}
	hold(t, empty, frame("x", row(half), row(half)), does{"WITH collect(x) AS l RETURN size(l)", "2;"})
	hold(t, empty, frame("x", row(half), row(half), row(value.String("y"))), does{"WITH collect(x) AS l RETURN size(l)", "!wrong"}, does{"WITH collect(DISTINCT x) AS l RETURN size(l)", "2;"})
	hold(t, empty, frame("x", row(nested(api.MaxDepth-1, value.Int(1)))), does{"RETURN collect(x)", "!wrong"}, does{"WITH min(x) AS m RETURN size(m)", "1;"})
}

func TestWithout(t *testing.T) {
	null, one := value.Null(), value.Int(1)
	deep := value.List(node(1), value.List(node(2), rel(1), one), entry("k", value.List(node(1), entry("l", rel(2)))))
	for _, x := range []struct {
		v           api.Value
		nodes, rels []int64
		want        string
	}{
		{node(3), []int64{3}, nil, "null"},
		{node(3), nil, []int64{3}, "n3"},
		{rel(3), nil, []int64{3}, "null"},
		{rel(3), []int64{3}, nil, "r3"},
		{node(3), []int64{1, 3, 2, 3}, []int64{4}, "null"},
		{node(3), []int64{1, 2, 4, -3, 1 << 62}, nil, "n3"},
		{node(0), []int64{}, []int64{0}, "n0"},
		{node(0), []int64{0}, nil, "null"},
		{null, []int64{0}, []int64{0}, "null"},
		{one, []int64{1}, []int64{1}, "1"},
		{value.String("n1"), []int64{1}, []int64{1}, "'n1'"},
		{value.Bool(true), []int64{1, 0}, []int64{1, 0}, "true"},
		{deep, nil, nil, "[n1, [n2, r1, 1], {k: [n1, {l: r2}]}]"},
		{deep, []int64{1}, nil, "[null, [n2, r1, 1], {k: [null, {l: r2}]}]"},
		{deep, []int64{2}, []int64{1, 2}, "[n1, [null, null, 1], {k: [n1, {l: null}]}]"},
		{deep, []int64{1, 2}, []int64{1, 2}, "[null, [null, null, 1], {k: [null, {l: null}]}]"},
		{value.List(), []int64{0}, nil, "[]"},
		{nested(api.MaxDepth-1, node(5)), []int64{5}, nil, strings.Repeat("[", api.MaxDepth-1) + "null" + strings.Repeat("]", api.MaxDepth-1)},
	} {
		v := clauses.Without(x.v, x.nodes, x.rels)
		if got := toldValue(v, api.OK); got != x.want {
			t.Errorf("%s: %s, not %s", toldValue(x.v, api.OK), got, x.want)
		}
	}
	// What may not be is told too, and ends.
	for name, v := range badValues() {
		if got := clauses.Without(v, nil, nil); !reflect.DeepEqual(got, v) {
			t.Error(name)
		}
	}
	if v := clauses.Without(nested(1<<16-1, node(1)), []int64{1}, nil); len(v.List) != 1 {
		t.Error("deep")
	}
	if v := clauses.Without(api.Value{Kind: api.ValueNode, Int: -1, Text: "x"}, []int64{-1}, nil); !reflect.DeepEqual(v, api.Value{}) {
		t.Error(v)
	}
}
