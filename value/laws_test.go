package value_test

import (
	"testing"

	"lattice/api"
	"lattice/value"
)

// P1.7: laws, held against all twos and threes of many values.

// many are values of all kinds, lists and maps of them, and lists and maps of some of those.
func many() []api.Value {
	atoms := []api.Value{null, no, yes, value.Int(-1), one, value.Int(10), text(""), text("a"), text("1"), text("null"), text("', '"), node(1), node(10), rel(1)}
	out := append([]api.Value{{Kind: api.ValueMap}, list()}, atoms...)
	for _, a := range atoms {
		out = append(out, list(a), entry("a", a), entry("b", a))
		for _, b := range atoms[:5] {
			out = append(out, list(a, b), pair(a, b))
		}
	}
	for _, a := range out[:40] {
		out = append(out, list(list(a)), entry("a", list(a)), list(entry("a", a)), list(null, a))
	}
	return append(out, entry("", one), entry("a: 1, b", one), entry("`", one), text("[1]"), text("<n1>"), text("{a: 1}"), entry("a`: 1, `b", one))
}

func holdsNothing(v api.Value) bool {
	if v.Kind == api.ValueNull {
		return true
	}
	for _, x := range v.List {
		if holdsNothing(x) {
			return true
		}
	}
	return false
}

func TestOrderIsTotal(t *testing.T) {
	l := value.Once(many()...)
	table := make([][]int, len(l))
	for i, a := range l {
		for k, b := range l {
			c := value.Compare(a, b)
			table[i] = append(table[i], c)
			if c != -value.Compare(b, a) || (c == 0) != (i == k) || value.CompareRows([]api.Value{a}, []api.Value{b}) != c {
				t.Error(i, k, c)
			}
		}
	}
	for i := range l {
		for k := range l {
			for m := range l {
				if table[i][k] <= 0 && table[k][m] <= 0 && table[i][m] > 0 {
					t.Fatal(l[i], l[k], l[m])
				}
			}
		}
	}
}

func TestTextsAreOfOneValue(t *testing.T) {
	l := many()
	for i, a := range l {
		s, e := value.Text(a)
		if e != api.OK {
			t.Fatal(i, e)
		}
		for k, b := range l {
			if o, _ := value.Text(b); (o == s) != value.Same(a, b) {
				t.Error(i, k, s, o)
			}
		}
	}
}

func TestEqualAndSame(t *testing.T) {
	l := many()
	for i, a := range l {
		for k, b := range l {
			got, same := value.Equal(a, b), value.Same(a, b)
			if got != value.Equal(b, a) {
				t.Error("turned", i, k)
			}
			if got == api.TruthTrue && !same || same && got == api.TruthFalse {
				t.Error("same", i, k)
			}
			if !same && !holdsNothing(a) && !holdsNothing(b) && got != api.TruthFalse {
				t.Error("unlike", i, k)
			}
		}
	}
}

func TestLessOrEqual(t *testing.T) {
	l := many()
	for i, a := range l {
		for k, b := range l {
			if a.Kind != b.Kind || !value.Storable(a) || a.Kind == api.ValueList {
				continue
			}
			hold := 0
			for _, x := range []api.Truth{value.Less(a, b), value.Less(b, a), value.Equal(a, b)} {
				if x == api.TruthTrue {
					hold++
				}
			}
			if hold != 1 {
				t.Error(i, k, hold)
			}
		}
	}
}
