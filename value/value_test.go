package value_test

import (
	"math"
	"reflect"
	"testing"

	"lattice/api"
	"lattice/value"
)

var (
	null  = value.Null()
	no    = value.Bool(false)
	yes   = value.Bool(true)
	one   = value.Int(1)
	two   = value.Int(2)
	list  = value.List
	text  = value.String
	wrong = api.Value{Kind: 8}
)

func node(n int64) api.Value { return api.Value{Kind: api.ValueNode, Int: n} }

func rel(n int64) api.Value { return api.Value{Kind: api.ValueRel, Int: n} }

// entry is a map with one key.
func entry(k string, v api.Value) api.Value {
	return api.Value{Kind: api.ValueMap, Keys: []string{k}, List: []api.Value{v}}
}

// pair is a map with the keys a and b.
func pair(a, b api.Value) api.Value {
	return api.Value{Kind: api.ValueMap, Keys: []string{"a", "b"}, List: []api.Value{a, b}}
}

// nested is v in n lists.
func nested(n int, v api.Value) api.Value {
	for range n {
		v = api.Value{Kind: api.ValueList, List: []api.Value{v}}
	}
	return v
}

// documented are the values of the document's example, in order.
func documented() []api.Value {
	return []api.Value{
		{Kind: api.ValueMap}, entry("a", one), pair(one, value.Int(0)), entry("b", value.Int(0)),
		node(0), node(3), rel(1),
		list(), list(one), list(one, two), list(two), list(null),
		text(""), text("a"), text("ab"), no, yes, value.Int(-1), value.Int(7), null,
	}
}

// refusedValues are values that Check refuses, by either error.
func refusedValues() []api.Value {
	return []api.Value{wrong, {Kind: api.ValueInt, Text: "a"}, list(text("\xff")), nested(api.MaxDepth, one)}
}

// P1.6

func TestMakersMakeTheirKinds(t *testing.T) {
	for i, x := range []struct{ got, want api.Value }{
		{value.Null(), api.Value{}},
		{value.Bool(true), api.Value{Kind: api.ValueBool, Bool: true}},
		{value.Bool(false), api.Value{Kind: api.ValueBool}},
		{value.Int(math.MinInt64), api.Value{Kind: api.ValueInt, Int: math.MinInt64}},
		{value.Int(math.MaxInt64), api.Value{Kind: api.ValueInt, Int: math.MaxInt64}},
		{value.String("a\x00é"), api.Value{Kind: api.ValueText, Text: "a\x00é"}},
		{value.String("\xff"), api.Value{Kind: api.ValueText, Text: "\xff"}},
		{value.List(), api.Value{Kind: api.ValueList}},
		{value.List(one, wrong), api.Value{Kind: api.ValueList, List: []api.Value{one, wrong}}},
	} {
		if !reflect.DeepEqual(x.got, x.want) {
			t.Error(i, x.got, x.want)
		}
	}
}

func TestMapPutsKeysInOrder(t *testing.T) {
	keys, l := []string{"b", "", "a b", "B", "\xff"}, []api.Value{one, two, yes, list(one), wrong}
	v, e := value.Map(keys, l)
	want := api.Value{Kind: api.ValueMap, Keys: []string{"", "B", "a b", "b", "\xff"}, List: []api.Value{two, list(one), yes, one, wrong}}
	if e != api.OK || !reflect.DeepEqual(v, want) {
		t.Error(v, e)
	}
	if !reflect.DeepEqual(keys, []string{"b", "", "a b", "B", "\xff"}) || !reflect.DeepEqual(l, []api.Value{one, two, yes, list(one), wrong}) {
		t.Error("what was handed in has changed", keys, l)
	}
	for _, empty := range [][]string{nil, {}} {
		if v, e := value.Map(empty, nil); e != api.OK || v.Kind != api.ValueMap || len(v.Keys)+len(v.List) != 0 {
			t.Error(v, e)
		}
	}
}

func TestMapRefuses(t *testing.T) {
	for i, x := range []struct {
		keys []string
		l    []api.Value
	}{
		{nil, []api.Value{one}},
		{[]string{"a"}, nil},
		{[]string{"a", "b"}, []api.Value{one}},
		{[]string{"a", "a"}, []api.Value{one, one}},
		{[]string{"a", "b", "c", "a"}, []api.Value{one, two, one, two}},
		{[]string{"", ""}, []api.Value{one, two}},
		{[]string{"\xff", "\xff"}, []api.Value{one, two}},
	} {
		if v, e := value.Map(x.keys, x.l); e != api.ErrArg || !reflect.DeepEqual(v, api.Value{}) {
			t.Error(i, v, e)
		}
	}
}

func TestCopyIsTheSame(t *testing.T) {
	odd := api.Value{Kind: -5, Bool: true, Int: -1, Text: "\xff", Keys: []string{"b", "a", "a"}, List: []api.Value{wrong, {Keys: []string{"\xff"}}}}
	for i, v := range append(documented(), odd, nested(1000, wrong)) {
		if c := value.Copy(v); !reflect.DeepEqual(c, v) {
			t.Error(i, c)
		}
	}
	deep := nested(1<<16, wrong)
	if value.Check(value.Copy(deep)) != api.ErrValue {
		t.Error("deep")
	}
}

// spoil writes over all the memory that a value has, the spare room behind its lists too.
func spoil(v api.Value) {
	keys, l := v.Keys[:cap(v.Keys)], v.List[:cap(v.List)]
	for i := range v.List {
		spoil(v.List[i])
	}
	for i := range keys {
		keys[i] = "spoilt"
	}
	for i := range l {
		l[i] = wrong
	}
}

func TestAnswersShareNoMemory(t *testing.T) {
	inner := func() api.Value { return pair(list(one, list(two)), entry("k", list(text("x")))) }
	handed := []api.Value{inner(), inner(), null}
	for i, made := range []func() []api.Value{
		func() []api.Value { return []api.Value{value.Copy(handed[0])} },
		func() []api.Value { return []api.Value{value.List(handed...)} },
		func() []api.Value { v, _ := value.Map([]string{"b", "a"}, handed[:2]); return []api.Value{v} },
		func() []api.Value { return value.Sorted(handed...) },
		func() []api.Value { return value.Once(handed...) },
	} {
		for _, v := range made() {
			spoil(v)
		}
		if !reflect.DeepEqual(handed, []api.Value{inner(), inner(), null}) {
			t.Fatal(i, handed)
		}
	}
}

func TestAnswersShareNothingWithin(t *testing.T) {
	shared := list(one)
	v := value.List(shared, shared)
	v.List[0].List[0] = two
	sorted := value.Sorted(shared, shared)
	sorted[0].List[0] = two
	m, _ := value.Map([]string{"a", "b"}, []api.Value{shared, shared})
	m.List[0].List[0] = two
	c := value.Copy(api.Value{Kind: api.ValueList, List: []api.Value{shared, shared}})
	c.List[0].List[0] = two
	for i, x := range []api.Value{v.List[1], sorted[1], m.List[1], c.List[1], shared} {
		if !value.Same(x, list(one)) {
			t.Error(i, x)
		}
	}
}

func TestSpareRoomIsLeftAlone(t *testing.T) {
	room := []api.Value{two, one, text("kept")}
	names := []string{"b", "a", "kept"}
	value.List(room[:2]...)
	value.Sorted(room[:2]...)
	value.Once(room[:2]...)
	value.Map(names[:2], room[:2])
	value.CompareRows(room[:1], room[:2])
	value.Copy(api.Value{Kind: api.ValueMap, Keys: names[:2], List: room[:2]})
	if !reflect.DeepEqual(room, []api.Value{two, one, text("kept")}) || !reflect.DeepEqual(names, []string{"b", "a", "kept"}) {
		t.Error(room, names)
	}
}
