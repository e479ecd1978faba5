package value_test

import (
	"cmp"
	"math"
	"reflect"
	"slices"
	"strings"
	"testing"

	"lattice/api"
	"lattice/value"
)

// P1.2

func TestCompareInDocumentedOrder(t *testing.T) {
	l := documented()
	for i := range l {
		for k := range l {
			if c := value.Compare(l[i], l[k]); c != cmp.Compare(i, k) {
				t.Error(i, k, c)
			}
			if value.Same(l[i], l[k]) != (i == k) {
				t.Error("same", i, k)
			}
		}
	}
}

func TestCompareWithinKinds(t *testing.T) {
	for i, x := range []struct{ less, more api.Value }{
		{value.Int(math.MinInt64), value.Int(math.MaxInt64)},
		{value.Int(-2), value.Int(-1)},
		{node(2), node(10)}, {rel(0), rel(math.MaxInt64)},
		{node(math.MaxInt64), rel(0)},
		{text("B"), text("a")}, {text("a"), text("a\x00")}, {text("z"), text("é")}, {text("\uffff"), text("\U00010000")},
		{list(), list(entry("z", null))}, {list(one, text("z")), list(one, two)},
		{list(list()), list(list(one))}, {list(entry("a", one)), list(node(0))},
		{list(text("z"), one), list(one)},
		{entry("a", null), pair(one, one)}, {pair(null, null), entry("b", one)},
		{entry("a", one), entry("a", two)}, {pair(one, two), pair(two, one)}, {pair(one, one), pair(one, two)},
		{entry("", null), entry("a", one)}, {entry("B", null), entry("a", one)},
		{entry("ab", one), entry("b", one)}, {entry("a", null), entry("ab", one)},
	} {
		if a, b := value.Compare(x.less, x.more), value.Compare(x.more, x.less); a != -1 || b != 1 {
			t.Error(i, a, b)
		}
		if value.Same(x.less, x.more) {
			t.Error("same", i)
		}
	}
}

func TestEmptyAndNilAreTheSame(t *testing.T) {
	for _, k := range []api.ValueKind{api.ValueNull, api.ValueInt, api.ValueList, api.ValueMap} {
		a, b := api.Value{Kind: k}, api.Value{Kind: k, Keys: []string{}, List: []api.Value{}}
		if value.Compare(a, b) != 0 || !value.Same(a, b) || !value.Same(list(a), list(b)) || len(value.Once(a, b)) != 1 {
			t.Error(k)
		}
	}
}

func TestCompareOfRefused(t *testing.T) {
	for i, bad := range refusedValues() {
		for _, v := range append(documented(), bad) {
			if value.Compare(bad, v) != 0 || value.Compare(v, bad) != 0 || value.Same(bad, v) || value.Same(v, bad) {
				t.Error(i, v)
			}
			if value.CompareRows([]api.Value{bad}, []api.Value{v}) != 0 || value.CompareRows([]api.Value{v}, []api.Value{bad}) != 0 {
				t.Error("rows", i, v)
			}
		}
		if value.CompareRows([]api.Value{one, bad}, []api.Value{two}) != 0 || value.CompareRows([]api.Value{two}, []api.Value{one, one, bad}) != 0 || value.CompareRows(nil, []api.Value{bad}) != 0 {
			t.Error("behind the first unlike ones", i)
		}
	}
}

func TestCompareRows(t *testing.T) {
	row := func(l ...api.Value) []api.Value { return l }
	for i, x := range []struct {
		a, b []api.Value
		want int
	}{
		{nil, nil, 0}, {nil, row(), 0}, {nil, row(null), -1}, {row(one), nil, 1},
		{row(one), row(one, two), -1}, {row(two), row(one, two), 1},
		{row(one, two), row(one, two), 0}, {row(one, null), row(one, two), 1},
		{row(text("a"), two), row(one, one), -1},
		{row(nested(api.MaxDepth-1, one)), row(nested(api.MaxDepth-1, two)), -1},
		{make([]api.Value, api.MaxRows+1), make([]api.Value, api.MaxRows+2), -1},
	} {
		if got := value.CompareRows(x.a, x.b); got != x.want {
			t.Error(i, got)
		}
		if got := value.CompareRows(x.b, x.a); got != -x.want {
			t.Error("turned", i, got)
		}
	}
	long := text(strings.Repeat("x", api.MaxText))
	if value.CompareRows(row(long, long, one), row(long, long, two)) != -1 {
		t.Error("each value of a row has a bound of its own")
	}
}

// P1.3

func TestEqual(t *testing.T) {
	const f, n, y = api.TruthFalse, api.TruthNull, api.TruthTrue
	for i, x := range []struct {
		a, b api.Value
		want api.Truth
	}{
		{one, one, y}, {one, two, f}, {one, text("1"), f}, {null, null, n}, {null, one, n}, {null, list(), n},
		{yes, yes, y}, {yes, no, f}, {yes, one, f}, {text("a"), text("a"), y}, {text("a"), text("A"), f}, {text("a"), text("ab"), f},
		{node(1), node(1), y}, {node(1), node(2), f}, {node(1), rel(1), f}, {rel(1), rel(1), y}, {rel(1), rel(2), f}, {node(1), one, f},
		{list(), list(), y}, {list(one, null), list(one, two), n}, {list(one, null), list(two, null), f},
		{list(null, one), list(null, two), f}, {list(null), list(null), n}, {list(one), list(one, null), f}, {list(null), list(), f},
		{list(one, two), list(one, two), y}, {list(one), list(text("1")), f},
		{list(list(null), one), list(list(one), two), f}, {list(list(null), one), list(list(one), one), n}, {list(list(null)), list(list()), f},
		{entry("a", null), entry("a", one), n}, {entry("a", one), entry("a", one), y}, {entry("a", one), entry("a", two), f},
		{entry("a", one), entry("b", one), f}, {entry("a", null), entry("b", null), f}, {entry("a", null), pair(null, null), f},
		{pair(null, one), pair(one, two), f}, {pair(null, one), pair(one, one), n}, {pair(one, two), pair(one, two), y},
		{api.Value{Kind: api.ValueMap}, list(), f}, {api.Value{Kind: api.ValueMap}, api.Value{Kind: api.ValueMap}, y},
	} {
		if got := value.Equal(x.a, x.b); got != x.want {
			t.Error(i, got)
		}
		if got := value.Equal(x.b, x.a); got != x.want {
			t.Error("turned", i, got)
		}
	}
}

func TestLess(t *testing.T) {
	const f, n, y = api.TruthFalse, api.TruthNull, api.TruthTrue
	for i, x := range []struct {
		a, b      api.Value
		want, too api.Truth
	}{
		{one, two, y, f}, {one, one, f, f}, {value.Int(math.MinInt64), value.Int(math.MaxInt64), y, f},
		{text("a"), text("b"), y, f}, {text("a"), text("ab"), y, f}, {text("B"), text("a"), y, f}, {text(""), text(""), f, f},
		{no, yes, y, f}, {yes, yes, f, f}, {no, no, f, f},
		{one, text("a"), n, n}, {one, yes, n, n}, {list(one), list(two), n, n}, {pair(one, one), pair(one, two), n, n},
		{node(1), node(2), n, n}, {rel(1), rel(2), n, n}, {null, null, n, n}, {null, one, n, n}, {node(1), one, n, n},
	} {
		if got := value.Less(x.a, x.b); got != x.want {
			t.Error(i, got)
		}
		if got := value.Less(x.b, x.a); got != x.too {
			t.Error("turned", i, got)
		}
	}
}

func TestTruthsOfRefused(t *testing.T) {
	odd := api.Value{Kind: api.ValueInt, Int: 1, Text: "a"}
	long := text(strings.Repeat("x", api.MaxText+1))
	for i, bad := range append(refusedValues(), odd, long) {
		for _, v := range append(documented(), bad) {
			for _, got := range []api.Truth{value.Equal(bad, v), value.Equal(v, bad), value.Less(bad, v), value.Less(v, bad)} {
				if got != api.TruthNull {
					t.Error(i, v, got)
				}
			}
		}
	}
}

// P1.5

func TestSorted(t *testing.T) {
	want := documented()
	turned := slices.Clone(want)
	slices.Reverse(turned)
	if got := value.Sorted(turned...); !reflect.DeepEqual(got, want) {
		t.Error(got)
	}
	if got := value.Sorted(two, one, two, one); !reflect.DeepEqual(got, []api.Value{one, one, two, two}) {
		t.Error(got)
	}
	if got := value.Sorted(); len(got) != 0 {
		t.Error(got)
	}
	handed := []api.Value{two, one}
	value.Sorted(handed...)
	if !reflect.DeepEqual(handed, []api.Value{two, one}) {
		t.Error("what was handed in has changed", handed)
	}
	if got := value.Sorted(make([]api.Value, api.MaxRows+1)...); len(got) != api.MaxRows+1 {
		t.Error(len(got))
	}
}

func TestOnce(t *testing.T) {
	for i, x := range []struct{ l, want []api.Value }{
		{nil, nil},
		{[]api.Value{two, one, two, one, two}, []api.Value{two, one}},
		{[]api.Value{null, null}, []api.Value{null}},
		{[]api.Value{list(null), list(null), list()}, []api.Value{list(null), list()}},
		{[]api.Value{one, text("1"), yes, node(1), rel(1), list(one), entry("a", one)}, []api.Value{one, text("1"), yes, node(1), rel(1), list(one), entry("a", one)}},
		{[]api.Value{text("null"), null, text("null")}, []api.Value{text("null"), null}},
		{[]api.Value{pair(one, two), pair(two, one), pair(one, two)}, []api.Value{pair(one, two), pair(two, one)}},
	} {
		if got := value.Once(x.l...); !reflect.DeepEqual(got, x.want) {
			t.Error(i, got)
		}
	}
	if got := value.Once(append(documented(), documented()...)...); !reflect.DeepEqual(got, documented()) {
		t.Error(got)
	}
}

func TestListsOfRefused(t *testing.T) {
	for i, bad := range refusedValues() {
		for _, l := range [][]api.Value{{bad}, {two, one, bad}, {bad, one, one}, {one, bad, one}} {
			if len(value.Sorted(l...)) != 0 || len(value.Once(l...)) != 0 {
				t.Error(i, l)
			}
		}
	}
}
