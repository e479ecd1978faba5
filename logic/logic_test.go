package logic_test

import (
	"reflect"
	"slices"
	"strings"
	"testing"

	"lattice/api"
	"lattice/logic"
	"lattice/value"
)

const (
	f = api.TruthFalse
	n = api.TruthNull
	y = api.TruthTrue
)

var (
	null = value.Null()
	one  = value.Int(1)
	two  = value.Int(2)
)

// noTruths are numbers that are no truths, and count as null.
func noTruths() []api.Truth { return []api.Truth{-1 << 63, -1, 3, 4, 7, 1<<63 - 1} }

// refused are values that layer 1's Check refuses.
func refused() []api.Value {
	deep := one
	for range api.MaxDepth {
		deep = value.List(deep)
	}
	return []api.Value{
		{Kind: 8}, {Kind: -1}, {Kind: api.ValueBool, Bool: true, Int: 1}, {Kind: api.ValueNull, Text: "a"}, {Kind: api.ValueBool, List: []api.Value{one}},
		value.String("\xff"), value.String(strings.Repeat("x", api.MaxText+1)), deep, value.List(api.Value{Kind: 9}),
	}
}

// P2.1

func TestTablesOfTwo(t *testing.T) {
	for i, x := range []struct{ a, b, and, or, xor api.Truth }{
		{f, f, f, f, f}, {f, n, f, n, n}, {f, y, f, y, y},
		{n, f, f, n, n}, {n, n, n, n, n}, {n, y, n, y, n},
		{y, f, f, y, y}, {y, n, n, y, n}, {y, y, y, y, f},
	} {
		if and, or, xor := logic.And(x.a, x.b), logic.Or(x.a, x.b), logic.Xor(x.a, x.b); and != x.and || or != x.or || xor != x.xor {
			t.Error(i, and, or, xor)
		}
	}
}

func TestNot(t *testing.T) {
	if logic.Not(f) != y || logic.Not(n) != n || logic.Not(y) != f {
		t.Error(logic.Not(f), logic.Not(n), logic.Not(y))
	}
}

func TestAndOrOfNoneAndOfOne(t *testing.T) {
	for i, l := range [][]api.Truth{nil, {}} {
		if logic.And(l...) != y || logic.Or(l...) != f {
			t.Error(i, logic.And(l...), logic.Or(l...))
		}
	}
	for _, x := range []api.Truth{f, n, y} {
		if logic.And(x) != x || logic.Or(x) != x {
			t.Error(x, logic.And(x), logic.Or(x))
		}
	}
}

func TestAndOrOfMany(t *testing.T) {
	for i, x := range []struct {
		l       []api.Truth
		and, or api.Truth
	}{
		{[]api.Truth{y, y, y}, y, y}, {[]api.Truth{f, f, f}, f, f}, {[]api.Truth{n, n, n}, n, n},
		{[]api.Truth{y, n, y}, n, y}, {[]api.Truth{f, n, f}, f, n}, {[]api.Truth{n, y, f}, f, y},
		{[]api.Truth{n, n, f}, f, n}, {[]api.Truth{n, n, y}, n, y}, {[]api.Truth{f, n, 9}, f, n},
		{append(slices.Repeat([]api.Truth{y}, 1000), f), f, y}, {append(slices.Repeat([]api.Truth{f}, 1000), y), f, y},
	} {
		if and, or := logic.And(x.l...), logic.Or(x.l...); and != x.and || or != x.or {
			t.Error(i, and, or)
		}
	}
}

func TestNoTruthsCountAsNull(t *testing.T) {
	for _, w := range noTruths() {
		if logic.Not(w) != n || logic.And(w) != n || logic.Or(w) != n || logic.Xor(w, w) != n {
			t.Error(w)
		}
		for _, x := range []api.Truth{f, n, y, 8} {
			if logic.And(w, x) != logic.And(n, x) || logic.And(x, w) != logic.And(n, x) {
				t.Error("and", w, x)
			}
			if logic.Or(w, x) != logic.Or(n, x) || logic.Or(x, w) != logic.Or(n, x) {
				t.Error("or", w, x)
			}
			if logic.Xor(w, x) != n || logic.Xor(x, w) != n {
				t.Error("xor", w, x)
			}
		}
	}
}

// P2.2

func TestOf(t *testing.T) {
	for i, x := range []struct {
		v    api.Value
		want api.Truth
		ok   bool
	}{
		{value.Bool(true), y, true}, {value.Bool(false), f, true}, {null, n, true},
		{api.Value{Kind: api.ValueBool, Bool: true, Keys: []string{}, List: []api.Value{}}, y, true},
		{value.Int(0), n, false}, {one, n, false}, {two, n, false}, {value.String("true"), n, false}, {value.String(""), n, false},
		{value.List(), n, false}, {value.List(value.Bool(true)), n, false}, {api.Value{Kind: api.ValueMap}, n, false},
		{api.Value{Kind: api.ValueNode}, n, false}, {api.Value{Kind: api.ValueRel, Int: 2}, n, false},
	} {
		if got, ok := logic.Of(x.v); got != x.want || ok != x.ok {
			t.Error(i, got, ok)
		}
	}
	for i, v := range refused() {
		if got, ok := logic.Of(v); got != n || ok {
			t.Error("refused", i, got, ok)
		}
	}
}

func TestValueAndHolds(t *testing.T) {
	want := map[api.Truth]api.Value{f: value.Bool(false), n: null, y: value.Bool(true)}
	for _, w := range noTruths() {
		want[w] = null
	}
	for x, v := range want {
		if got := logic.Value(x); !reflect.DeepEqual(got, v) {
			t.Error(x, got)
		}
		if logic.Holds(x) != (x == y) {
			t.Error("holds", x)
		}
	}
	for _, x := range []api.Truth{f, n, y} {
		if got, ok := logic.Of(logic.Value(x)); got != x || !ok {
			t.Error("back", x, got, ok)
		}
	}
}

// P2.6

func TestIn(t *testing.T) {
	nested := value.List(one, null)
	for i, x := range []struct {
		v    api.Value
		l    []api.Value
		want api.Truth
	}{
		{one, []api.Value{one, null}, y}, {one, []api.Value{null, one}, y}, {two, []api.Value{one, null}, n}, {two, []api.Value{null, one}, n},
		{two, nil, f}, {two, []api.Value{}, f}, {null, nil, f}, {null, []api.Value{one}, n}, {null, []api.Value{null}, n},
		{two, []api.Value{one, value.String("2")}, f}, {two, []api.Value{one, two, one}, y}, {two, []api.Value{value.List(two)}, f},
		{nested, []api.Value{one}, f}, {nested, []api.Value{value.List(one, two)}, n}, {nested, []api.Value{value.List(two, two)}, f},
		{value.List(one, two), []api.Value{nested, value.List(one, two)}, y}, {value.List(), []api.Value{value.List()}, y},
		{api.Value{Kind: api.ValueNode, Int: 1}, []api.Value{one, {Kind: api.ValueRel, Int: 1}}, f},
		{api.Value{Kind: api.ValueNode, Int: 1}, []api.Value{{Kind: api.ValueNode, Int: 1}}, y},
	} {
		if got := logic.In(x.v, x.l...); got != x.want {
			t.Error(i, got)
		}
	}
}

func TestInOfRefusedValues(t *testing.T) {
	for i, w := range refused() {
		if logic.In(w) != f || logic.In(w, one) != n || logic.In(w, w) != n {
			t.Error("asked", i)
		}
		if logic.In(one, w) != n || logic.In(one, two, w) != n || logic.In(one, w, one) != y || logic.In(one, one, w) != y {
			t.Error("in the list", i)
		}
	}
}

// P2.7

func TestTruthsDoNotHangOnOrder(t *testing.T) {
	all := []api.Truth{f, n, y, 7}
	for _, a := range all {
		for _, b := range all {
			if logic.And(a, b) != logic.And(b, a) || logic.Or(a, b) != logic.Or(b, a) || logic.Xor(a, b) != logic.Xor(b, a) {
				t.Error("turned", a, b)
			}
			for _, c := range all {
				l := []api.Truth{a, b, c}
				for _, o := range [][]api.Truth{{a, c, b}, {b, a, c}, {b, c, a}, {c, a, b}, {c, b, a}, {a, b, c, b}, {a, a, b, c, c, a}} {
					if logic.And(o...) != logic.And(l...) || logic.Or(o...) != logic.Or(l...) {
						t.Error(l, o)
					}
				}
				if logic.Not(logic.And(l...)) != logic.Or(logic.Not(a), logic.Not(b), logic.Not(c)) || logic.Not(logic.Or(l...)) != logic.And(logic.Not(a), logic.Not(b), logic.Not(c)) {
					t.Error("not", l)
				}
				if logic.And(logic.And(a, b), c) != logic.And(l...) || logic.Or(logic.Or(a, b), c) != logic.Or(l...) {
					t.Error("one behind the other", l)
				}
			}
		}
	}
}

func TestArgumentsStayAsTheyWere(t *testing.T) {
	l, kept := []api.Truth{f, 7, y, n}, []api.Truth{f, 7, y, n}
	logic.And(l[:2]...)
	logic.Or(l[:3]...)
	numbers := []int64{1, -5, 1 << 62, 9}
	logic.Sum(numbers[:3]...)
	if !slices.Equal(l, kept) || !slices.Equal(numbers, []int64{1, -5, 1 << 62, 9}) {
		t.Error(l, numbers)
	}
}
