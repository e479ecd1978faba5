package match_test

import (
	"math/rand/v2"
	"slices"
	"testing"

	"lattice/api"
	"lattice/match"
	"lattice/value"
)

// P8.2.

// rising are rows in order, each ahead of all behind it: by the order of values, and a shorter one ahead of those that it begins.
func rising() [][]api.Value {
	m := api.Value{Kind: api.ValueMap}
	one := value.Int(1)
	return [][]api.Value{
		{},
		{m}, {m, m}, {m, node(0)}, {m, value.Null()},
		{node(0)}, {node(0), node(0)}, {node(0), node(1)}, {node(0), rel(0)}, {node(0), rel(0), one}, {node(0), one},
		{node(1)}, {node(1), node(0)},
		{node(10)},
		{rel(0)}, {rel(0), node(7)}, {rel(0), value.Null()}, {rel(3)},
		{value.List()}, {value.List(), one}, {value.List(one)}, {value.List(one, one)}, {value.List(value.Int(2))},
		{value.String("")}, {value.String("a")}, {value.String("a"), one}, {value.String("ab")}, {value.String("b")},
		{value.Bool(false)}, {value.Bool(true)},
		{value.Int(-1 << 63)}, {value.Int(-1)}, {value.Int(0)}, {one}, {one, one}, {one, one, one}, {one, value.Int(2)}, {one, value.Null()}, {value.Int(2)}, {value.Int(10)},
		{value.Null()}, {value.Null(), m}, {value.Null(), value.Null()}, {value.Null(), value.Null(), value.Null()},
	}
}

func TestLess(t *testing.T) {
	l := rising()
	for i, a := range l {
		for j, b := range l {
			if match.Less(a, b) != (i < j) {
				t.Errorf("%s and %s", told([][]api.Value{a}, api.OK), told([][]api.Value{b}, api.OK))
			}
		}
	}
	if match.Less(nil, nil) || match.Less(nil, []api.Value{}) || match.Less([]api.Value{}, nil) {
		t.Error("rows of nothing")
	}
}

func sameRows(a, b [][]api.Value) bool {
	return slices.EqualFunc(a, b, func(x, y []api.Value) bool { return slices.EqualFunc(x, y, value.Same) })
}

func TestOrder(t *testing.T) {
	want := rising()
	r := rand.New(rand.NewPCG(8, 2))
	for range 200 {
		l := rising()
		r.Shuffle(len(l), func(i, j int) { l[i], l[j] = l[j], l[i] })
		if got := match.Order(l); !sameRows(got, want) {
			t.Fatalf("%s: %s", told(l, api.OK), told(got, api.OK))
		}
	}
	// Rows that are the same all stay.
	for range 200 {
		var l, twice [][]api.Value
		for _, row := range want {
			for range r.IntN(3) {
				l, twice = append(l, row), append(twice, row)
			}
		}
		r.Shuffle(len(l), func(i, j int) { l[i], l[j] = l[j], l[i] })
		if got := match.Order(l); !sameRows(got, twice) {
			t.Fatalf("%s: %s", told(l, api.OK), told(got, api.OK))
		}
	}
	if l := match.Order(nil); len(l) != 0 {
		t.Error(l)
	}
	if l := match.Order([][]api.Value{{}, nil, {}}); len(l) != 3 || len(l[0])+len(l[1])+len(l[2]) != 0 {
		t.Error(l)
	}
	if l := match.Order([][]api.Value{want[7]}); !sameRows(l, want[7:8]) {
		t.Error(l)
	}
}

// A great many rows.
func TestOrderOfMany(t *testing.T) {
	r := rand.New(rand.NewPCG(8, 3))
	l := make([][]api.Value, 20000)
	for i := range l {
		l[i] = []api.Value{node(r.Int64N(50)), value.Int(r.Int64N(50)), rel(r.Int64N(50))}[:1+r.IntN(3)]
	}
	got := match.Order(l)
	if !slices.IsSortedFunc(got, value.CompareRows) || len(got) != len(l) {
		t.Error("no order")
	}
	slices.SortFunc(l, value.CompareRows)
	if !sameRows(got, l) {
		t.Error("other rows")
	}
}

// Values that may not be count as the same as any other: what stands behind them decides.
func TestRowsOfValuesThatMayNotBe(t *testing.T) {
	for name, v := range badValues() {
		one, two := value.Int(1), value.Int(2)
		for _, x := range []struct {
			a, b  []api.Value
			less  bool
			turns bool
		}{
			{[]api.Value{v}, []api.Value{v}, false, false},
			{[]api.Value{v}, []api.Value{one}, false, false},
			{[]api.Value{v}, []api.Value{one, one}, true, false},
			{[]api.Value{one}, []api.Value{v, one}, true, false},
			{[]api.Value{v, one}, []api.Value{v, two}, true, false},
			{[]api.Value{v, one}, []api.Value{one, two}, true, false},
			{[]api.Value{one, one, v}, []api.Value{v, two, v}, true, false},
			{[]api.Value{v, two}, []api.Value{one, one}, false, true},
			{[]api.Value{one, v}, []api.Value{two, v}, true, false},
		} {
			if match.Less(x.a, x.b) != x.less || match.Less(x.b, x.a) != x.turns {
				t.Errorf("%s: %v %v", name, x.less, x.turns)
			}
		}
		l := match.Order([][]api.Value{{v, two}, {v, one}, {v}})
		if len(l) != 3 || len(l[0]) != 1 || l[1][1].Int != 1 || l[2][1].Int != 2 || l[0][0].Kind != v.Kind {
			t.Errorf("%s: %v", name, told(l, api.OK))
		}
	}
}
