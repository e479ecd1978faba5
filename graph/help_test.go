package graph_test

import (
	"reflect"
	"slices"
	"strings"
	"testing"

	"lattice/api"
	"lattice/graph"
	"lattice/value"
)

const highest = int64(1) << 62

// prop is a property with a number.
func prop(key string, n int64) api.Prop { return api.Prop{Key: key, Value: value.Int(n)} }

func list(l ...api.Value) api.Value { return value.List(l...) }

// sample is a graph that may be, with a bit of everything: nodes with gaps between, one alone, one with a relationship to itself, two relationships alike.
func sample() api.Graph {
	return api.Graph{
		Nodes: []api.Node{
			{ID: 0, Labels: []string{"A", "B"}, Props: []api.Prop{prop("k", 1), {Key: "l", Value: list(value.String("x"), value.String("y"))}, {Key: "t", Value: value.Bool(true)}}},
			{ID: 2, Labels: []string{"A"}, Props: []api.Prop{{Key: "e", Value: list()}}},
			{ID: 3},
			{ID: 7, Labels: []string{"a b", "match"}, Props: []api.Prop{prop("`", -1)}},
		},
		Rels: []api.Rel{
			{ID: 0, From: 0, To: 2, Type: "T", Props: []api.Prop{prop("k", 5), {Key: "l", Value: list(value.Int(1), value.Int(2))}}},
			{ID: 1, From: 2, To: 0, Type: "T"},
			{ID: 4, From: 7, To: 7, Type: "not a"},
			{ID: 5, From: 0, To: 2, Type: "T"},
			{ID: 6, From: 0, To: 7, Type: "U", Props: []api.Prop{{Key: "s", Value: value.String("")}}},
		},
		NextNode: 9, NextRel: 7,
	}
}

// crowd is a graph of so many nodes, and so many relationships of the first one to itself.
func crowd(nodes, rels int64) api.Graph {
	g := api.Graph{NextNode: nodes, NextRel: rels}
	for i := range nodes {
		g.Nodes = append(g.Nodes, api.Node{ID: i})
	}
	for i := range rels {
		g.Rels = append(g.Rels, api.Rel{ID: i, Type: "T"})
	}
	return g
}

// with is the sample, changed.
func with(change func(g *api.Graph)) api.Graph {
	g := sample()
	change(&g)
	return g
}

// notNames are texts that may be no names.
func notNames() []string {
	return []string{"", strings.Repeat("x", api.MaxName+1), strings.Repeat("é", api.MaxName/2) + "x", "a\x00", "\xff", "a\xc3"}
}

// names are texts that may be names, rising.
func names() []string {
	return []string{"\x01", " ", "0", "A", "A b", "AA", "MATCH", strings.Repeat("Z", api.MaxName), "_", "`", "a", "match", strings.Repeat("é", api.MaxName/2)}
}

// notStored are values that may not be stored, without null.
func notStored() map[string]api.Value {
	return map[string]api.Value{
		"a map":                 {Kind: api.ValueMap},
		"a node":                {Kind: api.ValueNode},
		"a relationship":        {Kind: api.ValueRel},
		"a list of null":        list(value.Null()),
		"a list of lists":       list(list()),
		"a list of two kinds":   list(value.Int(1), value.String("a")),
		"a list of nodes":       list(api.Value{Kind: api.ValueNode}),
		"no kind":               {Kind: 8},
		"a kind below":          {Kind: -1},
		"a null with a text":    {Text: "x"},
		"a null with a list":    {List: []api.Value{{}}},
		"a number with a truth": {Kind: api.ValueInt, Bool: true},
		"a text of no UTF-8":    value.String("\xff"),
		"a text that is long":   value.String(strings.Repeat("x", api.MaxText+1)),
		"a list that is long":   list(slices.Repeat([]api.Value{value.Int(1)}, api.MaxRows+1)...),
	}
}

// stored are values that may be.
func stored() []api.Value {
	return []api.Value{
		value.Bool(false), value.Bool(true), value.Int(0), value.Int(-1 << 63), value.Int(1<<63 - 1), value.String(""), value.String("é\x00"),
		list(), {Kind: api.ValueList, List: []api.Value{}}, list(value.Bool(true), value.Bool(false)), list(value.Int(1), value.Int(1)), list(value.String("")),
		value.String(strings.Repeat("x", api.MaxText)), list(slices.Repeat([]api.Value{value.Int(1)}, api.MaxRows)...),
	}
}

// alike holds things against each other field by field; no list and an empty one are the same.
func alike(a, b any) bool { return alikeIn(reflect.ValueOf(a), reflect.ValueOf(b)) }

func alikeIn(a, b reflect.Value) bool {
	switch a.Kind() {
	case reflect.Struct:
		for i := range a.NumField() {
			if !alikeIn(a.Field(i), b.Field(i)) {
				return false
			}
		}
		return true
	case reflect.Slice:
		if a.Len() != b.Len() {
			return false
		}
		for i := range a.Len() {
			if !alikeIn(a.Index(i), b.Index(i)) {
				return false
			}
		}
		return true
	}
	return a.Equal(b)
}

// memory tells where the lists within a thing lie.
func memory(v reflect.Value, seen map[uintptr]int) {
	switch v.Kind() {
	case reflect.Struct:
		for i := range v.NumField() {
			memory(v.Field(i), seen)
		}
	case reflect.Slice:
		if v.Cap() > 0 {
			seen[v.Pointer()]++
		}
		for i := range v.Len() {
			memory(v.Index(i), seen)
		}
	}
}

// apart holds that things share no memory with each other, nor the second one within itself.
func apart(t *testing.T, a, b any) {
	t.Helper()
	first, second := map[uintptr]int{}, map[uintptr]int{}
	memory(reflect.ValueOf(a), first)
	memory(reflect.ValueOf(b), second)
	for p, n := range second {
		if n != 1 || first[p] != 0 {
			t.Error("shared memory")
			return
		}
	}
}

// spoil overwrites all that lies in a thing's lists.
func spoil(x any) { spoilIn(reflect.ValueOf(x)) }

func spoilIn(v reflect.Value) {
	switch v.Kind() {
	case reflect.Struct:
		for i := range v.NumField() {
			spoilIn(v.Field(i))
		}
	case reflect.Slice:
		for i := range v.Len() {
			spoilIn(v.Index(i))
			v.Index(i).SetZero()
		}
	}
}

// made is a graph of one that must be let through.
func made(t *testing.T, g api.Graph) *graph.Graph {
	t.Helper()
	m, e := graph.Make(g)
	if e != api.OK || m == nil || !m.There() {
		t.Fatal("Make", e)
	}
	return m
}

// tells holds that a graph tells just this.
func tells(t *testing.T, g *graph.Graph, want api.Graph) {
	t.Helper()
	if got := g.Tell(); !alike(got, want) {
		t.Errorf("tells\n%v, not\n%v", got, want)
	}
}

// is holds what was answered against what the chapter asks for.
func is[T comparable](t *testing.T, what string, got, want T) {
	t.Helper()
	if got != want {
		t.Errorf("%s: %v, not %v", what, got, want)
	}
}

func isList(t *testing.T, what string, got []int64, want ...int64) {
	t.Helper()
	if !slices.Equal(got, want) {
		t.Errorf("%s: %v, not %v", what, got, want)
	}
}
